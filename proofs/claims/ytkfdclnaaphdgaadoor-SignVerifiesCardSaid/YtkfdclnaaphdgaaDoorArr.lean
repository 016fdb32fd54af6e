/- An array of bytes among a law's parameters: opened, shut. -/
import Derived.Test.YtkfdclnaaphdgaaDoorRows
import Derived.WalkKit
import Derived.ProofKit
import Derived.OpenShut
import Derived.ShutString
import Derived.ChangeOld
import Derived.Below
namespace Go.Proofs.YtkfdclnaaphdgaaDoor
open Go.ChangeShapes Go.WideShapes Go.ChangeAt Go.RowKit
section
variable {H : Type} {enc : TypeId × Value → H} {P : Program} {w W : World} {base : Nat} {spare : Nat → Bool} {held : Bool} {r : Reach} {b0 : Nat} {T E : TypeId} {n : Nat}
def cellB (c : UInt8) : Value := .int .u8 (c.toNat : Int)
def datB (H : Type) (c : UInt8) : DataW H := .lit (.int .u8 (c.toNat : Int))
theorem u8_of_wf {x : Int} (h : (Lit.int .u8 x).wf = true) : ∃ c : UInt8, x = (c.toNat : Int) := by
  simp [Lit.wf, IntKind.min, IntKind.max, IntKind.signed, IntKind.bits] at h
  exact ⟨UInt8.ofNat x.toNat, by simp; omega⟩
theorem wf_u8 (c : UInt8) : (Lit.int .u8 (c.toNat : Int)).wf = true := by
  have := c.toNat_lt
  simp [Lit.wf, IntKind.min, IntKind.max, IntKind.signed, IntKind.bits]; omega
theorem cells_of_pts : ∀ (n : Nat) (cs : List Value) (xs : List (DataW H × List MemPlace)), cs.length = n → xs.length = n →
    (∀ i, i < n → ∃ c : UInt8, cs[i]? = some (cellB c) ∧ xs[i]? = some (datB H c, [])) →
    ∃ bs : List UInt8, bs.length = n ∧ cs = bs.map cellB ∧ xs = bs.map fun c => (datB H c, [])
  | 0, cs, xs, h1, h2, _ => ⟨[], rfl, List.eq_nil_of_length_eq_zero h1, List.eq_nil_of_length_eq_zero h2⟩
  | n + 1, c :: cs, x :: xs, h1, h2, h => by
    obtain ⟨b, e1, e2⟩ := h 0 (by omega)
    obtain ⟨bs, l, e3, e4⟩ := cells_of_pts n cs xs (by simpa using h1) (by simpa using h2) (fun i hi => by simpa using h (i + 1) (by omega))
    simp at e1 e2
    exact ⟨b :: bs, by simp [l], by simp [e1, e3], by simp [e2, e4]⟩
theorem open_arr8 (hu : P.underlying T = some (.array n E)) (he : P.underlying E = some (.int .u8)) (h1 : P.cellsOf E = 1) (hn : P.cellsOf T = n) {v : Value} {d : DataW H} {p : List MemPlace}
    (hv : Value.okWide P W r b0 T v) (h : DataW.Trod enc P w base spare held T v d p) :
    ∃ bs : List UInt8, v = .agg (bs.map fun c => Value.int .u8 (c.toNat : Int)).toArray ∧ d = .agg (bs.map (datB H)) ∧ p = [] ∧ bs.length = n := by
  unfold Value.okWide at hv
  rw [hu] at hv
  obtain ⟨cs, rfl, hsz, _⟩ := hv
  obtain ⟨fuel, hf⟩ := h
  obtain ⟨xs, m, _, hx, hl, hxl, hall⟩ := DataW.trod_array hu hf
  simp only [Value.cells] at hall hl
  have hcl : cs.toList.length = n := by rw [hl, hn]
  obtain ⟨bs, hbl, e1, e2⟩ := cells_of_pts (H := H) n cs.toList xs hcl hxl (fun i hi => by
    have h2 := hall i hi
    rw [h1, Nat.mul_one] at h2
    have hi2 : i < cs.toList.length := by omega
    have e : (cs.toList.drop i).take 1 = [cs.toList[i]] := by
      rw [List.drop_eq_getElem_cons hi2]; rfl
    have hxi : xs[i]? = some xs[i] := List.getElem?_eq_getElem (by omega)
    rw [e, hxi] at h2
    obtain ⟨z, hz, hx2, hwf⟩ := DataW.trod_int he h2
    obtain ⟨c, rfl⟩ := u8_of_wf hwf
    refine ⟨c, ?_, by rw [hxi, hx2]; rfl⟩
    rw [List.getElem?_eq_getElem hi2]
    simpa [cellB] using hz)
  refine ⟨bs, ?_, ?_, ?_, hbl⟩
  · have : cs = cs.toList.toArray := by simp
    rw [this, e1]; rfl
  · have := congrArg Prod.fst hx
    simp only at this
    rw [this, e2, List.map_map]; rfl
  · have := congrArg Prod.snd hx
    simp only at this
    rw [this, e2]; simp
theorem shut_arr8 (hu : P.underlying T = some (.array n E)) (he : P.underlying E = some (.int .u8)) (h1 : P.cellsOf E = 1) (hn : P.cellsOf T = n) (bs : List UInt8) (hl : bs.length = n) :
    DataW.Trod enc P w base spare held T (.agg (bs.map fun c => Value.int .u8 (c.toNat : Int)).toArray) (.agg (bs.map (datB H))) [] := by
  refine ⟨2, ?_⟩
  have key : ((List.range n).mapM fun i => DataW.trod enc P w base spare held 1 E (((bs.map fun c => Value.int .u8 (c.toNat : Int)).drop (i * P.cellsOf E)).take (P.cellsOf E))) = some (bs.map fun c => (datB H c, [])) := by
    rw [h1, ← hl]
    have : ∀ (xs : List UInt8), ((List.range xs.length).mapM fun i => DataW.trod enc P w base spare held 1 E (((xs.map fun c => Value.int .u8 (c.toNat : Int)).drop (i * 1)).take 1)) = some (xs.map fun c => (datB H c, [])) := by
      intro xs
      induction xs with
      | nil => rfl
      | cons c xs ih =>
        rw [List.length_cons, List.range_succ_eq_map, List.mapM_cons, List.mapM_map]
        have e0 : DataW.trod enc P w base spare held 1 E ((((c :: xs).map fun c => Value.int .u8 (c.toNat : Int)).drop (0 * 1)).take 1) = some (datB H c, []) := by
          simp [DataW.trod, he, wf_u8, datB]
        have e1 : (fun i => DataW.trod enc P w base spare held 1 E ((((c :: xs).map fun c => Value.int .u8 (c.toNat : Int)).drop ((i + 1) * 1)).take 1)) = fun i => DataW.trod enc P w base spare held 1 E (((xs.map fun c => Value.int .u8 (c.toNat : Int)).drop (i * 1)).take 1) := by
          funext i
          simp
        rw [e0]
        show (some _ >>= fun _ => _) = _
        simp only [Option.bind_eq_bind, Option.bind_some]
        have ih' := ih
        rw [← e1] at ih'
        simp only [Function.comp_def] at *
        rw [ih']
        rfl
    exact this bs
  unfold DataW.trod
  rw [hu]
  simp only [Value.cells, List.length_map]
  rw [if_pos (by rw [hn]; exact hl), key]
  simp [Function.comp_def, List.flatMap]
end
end Go.Proofs.YtkfdclnaaphdgaaDoor
