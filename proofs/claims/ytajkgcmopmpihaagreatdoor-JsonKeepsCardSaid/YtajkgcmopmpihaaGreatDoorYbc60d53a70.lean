/- Texts put together: JpX JpY JpZ JvS6 JvT6 JpJ Jp1. -/
import Derived.Test.YtajkgcmopmpihaaGreatDoorY1a8cd4bbf6
import Derived.Test.YtajkgcmopmpihaaGreatDoorYcc81974a9e
import Derived.Test.YtajkgcmopmpihaaGreatDoorYcc66149044
import Derived.Test.YtajkgcmopmpihaaGreatDoorYb29be83949
namespace Go.Proofs.YtajkgcmopmpihaaGreatDoor
open Go.ChangeShapes Go.WideShapes Go.ChangeAt Go.RowKit Go.IntWalk Go.Sort
set_option linter.unusedVariables false
def MbOk (P : Nat → Prop) (w : World) (m : Mb) (k : List UInt8) (v : Jv) : Prop :=
  m.key = k ∧ k.length ≤ 140737488355328 ∧ JCs P w [.int .i64 m.kd, .bool m.is, .int .i64 m.n, .string ⟨m.s.toArray⟩, .slice m.A m.nl m.cl, .slice m.B m.nm m.cm] v
theorem MbOk.of {P : Nat → Prop} {w : World} {cs : List Value} {t : JT} {i : Nat} (h : RowE P true w cs t i) : ∃ m, MbOk P w m (t.fall i).key (t.fall i).val ∧ ∀ j v, (encM m)[j]? = some v → cs[i * 7 + j]? = some v := by
  obtain ⟨⟨h1, h2⟩, e, h3, h4⟩ := h
  have h4' := h4
  obtain ⟨A, nl, cl, B, nm, cm, he, _⟩ := h4
  subst he
  refine ⟨⟨(t.fall i).key, (t.fall i).val.kd, (t.fall i).val.is, (t.fall i).val.n, (t.fall i).val.s, A, nl, cl, B, nm, cm⟩, ⟨rfl, h2, h4'⟩, fun j v hj => ?_⟩
  cases j with
  | zero => simp only [encM, List.getElem?_cons_zero] at hj; rw [← hj]; exact h1
  | succ j =>
    simp only [encM, List.getElem?_cons_succ] at hj
    have := h3 j v hj
    rw [show i * 7 + (j + 1) = i * 7 + 1 + j by omega]
    exact this
theorem MbOk.to {P : Nat → Prop} {w : World} {cs : List Value} {t : JT} {i : Nat} {m : Mb} (h : MbOk P w m (t.fall i).key (t.fall i).val) (hc : ∀ j v, (encM m)[j]? = some v → cs[i * 7 + j]? = some v) : RowE P true w cs t i := by
  obtain ⟨h1, h2, h3⟩ := h
  refine ⟨⟨?_, h2⟩, _, fun j v hj => ?_, h3⟩
  · have := hc 0 _ rfl
    rw [← h1]; exact this
  · have := hc (j + 1) v (by simpa [encM] using hj)
    rw [show i * 7 + (j + 1) = i * 7 + 1 + j by omega] at this
    exact this
theorem sortM_blk {w : World} {g n : Nat} {T : TypeId} {cs : List Value} {d : Array Mb} {os : Array Obj} (h : Blk w g T cs) : Blk (sortWorldK encM 7 w g 0 n d os) g T (Go.Sort.putCells id 0 (Go.Sort.flatK encM 7 d) cs.toArray).toList := by
  have hg : g < w.heap.size := h.lt
  have h' : w.heap[g]? = some (.cells cs.toArray T (0, 0)) := h
  show (sortWorldK encM 7 w g 0 n d os).heap[g]? = some (.cells (List.toArray (Array.toList (Go.Sort.putCells id 0 (Go.Sort.flatK encM 7 d) cs.toArray))) T (0, 0))
  unfold sortWorldK Go.Sort.grow Go.Sort.putRowK Go.Sort.putRow Go.Sort.mapBlock Go.Sort.ahead
  show (w.heap.modify g _ ++ os)[g]? = _
  rw [Array.getElem?_append_left (by simpa using hg), Array.getElem?_modify, if_pos rfl, h']
  simp [Go.Sort.onCells]
theorem sortM_chg {w : World} {g n : Nat} {d : Array Mb} {os : Array Obj} (hg : g < w.heap.size) : Chg (· = g) w (sortWorldK encM 7 w g 0 n d os) := by
  refine ⟨rfl, rfl, rfl, ?_, fun i hi hne => ?_⟩
  · simp [sortWorldK, Go.Sort.grow, Go.Sort.putRowK, Go.Sort.putRow, Go.Sort.mapBlock, Go.Sort.ahead]
  · unfold sortWorldK Go.Sort.grow Go.Sort.putRowK Go.Sort.putRow Go.Sort.mapBlock Go.Sort.ahead
    show (w.heap.modify g _ ++ os)[i]? = w.heap[i]?
    rw [Array.getElem?_append_left (by simpa using hi), Array.getElem?_modify, if_neg (fun e => hne e.symm)]
theorem holdsM {w : World} {g : Nat} {T : TypeId} {cur : Array Value} {l : List Mb} (hh : w.heap[g]? = some (.cells cur T (0, 0))) (hc : ∀ i (h : i < l.length) j v, (encM l[i])[j]? = some v → cur.toList[i * 7 + j]? = some v) : HoldsK encM 7 w g 0 l.toArray := fun q hq => by
  have hblk : Blk w g T cur.toList := hh
  have hq2 : q < l.length * 7 := by simpa using hq
  obtain ⟨i, j, rfl, hj, hi⟩ : ∃ i j, q = i * 7 + j ∧ j < 7 ∧ i < l.length := ⟨q / 7, q % 7, by omega, by omega, by omega⟩
  rw [Nat.zero_add, get_flatK encM 7 _ _ (by simpa using hq2), show (i * 7 + j) / 7 = i by omega, show (i * 7 + j) % 7 = j by omega]
  have e : l.toArray[i]! = l[i] := by rw [getElem!_pos l.toArray i (by simpa using hi)]; simp
  rw [e]
  have hj2 : j < (encM l[i]).length := hj
  refine ⟨?_, hblk.frozen _⟩
  rw [getElem!_pos (encM l[i]) j hj2]
  exact hblk.cell (hc i hi j _ (List.getElem?_eq_getElem hj2))
end Go.Proofs.YtajkgcmopmpihaaGreatDoor
namespace Go.Proofs.YtajkgcmopmpihaaGreatDoor
open Go.ChangeShapes Go.WideShapes Go.ChangeAt Go.RowKit Go.IntWalk Go.Sort
set_option linter.unusedVariables false
theorem row_sort {P : Nat → Prop} {w : World} {L : Value} {acc : JT} (hrow : RowP P 0 true w L acc acc.ext) (hap : acc.apart) (hP : ∀ b, P b → b < w.heap.size ∧ L.ownBlock ≠ some b) (hk : acc.ext ≤ 65536) :
    Calls Tryz.prog 79 #[L, .func (.func 80) #[] #[]] w fun e w' => e = .returned (.tuple #[]) ∧ RowP P 0 true w' L (sortJ acc) acc.ext ∧ Chg (fun b => L.ownBlock = some b) w w' := by
  obtain ⟨cs, hown, h1⟩ := hrow
  have hown1 := hown.1
  rcases hown.2 with ⟨hL, h0⟩ | ⟨g, cap, cur, hL, hb, hh, hn, hm, hs, ht⟩
  · subst hL
    refine (sort_nil w).mono ?_
    rintro e w' ⟨rfl, hb⟩
    refine ⟨rfl, ?_, Chg.of hb⟩
    rw [h0]; exact RowP.nil _ _ _ _ _
  · subst hL
    obtain ⟨l, hl, hlm⟩ := row_ex (P := fun i m => MbOk P w m (acc.fall i).key (acc.fall i).val ∧ ∀ j v, (encM m)[j]? = some v → cs[i * 7 + j]? = some v) acc.ext (fun i hi => MbOk.of (h1 i hi))
    have hcur : ∀ i (h : i < l.length) j v, (encM l[i])[j]? = some v → cur.toList[i * 7 + j]? = some v := fun i h j v hj => by
      have := (hlm i h).2 j v hj
      rw [← ht, List.getElem?_take] at this
      split at this
      · exact this
      · cases this
    have hH := holdsM hh hcur
    have hg : g < w.heap.size := (Array.getElem?_eq_some_iff.1 hh).1
    have hLy : LyM (MbOk P w) l acc := lyM_of hl (fun i h => (hlm i h).1)
    have HS := sortM_calls g cap l.toArray w hH hg (by simp; omega)
    rw [show l.toArray.size = acc.ext by simpa using hl] at HS
    refine HS.mono ?_
    rintro e w' ⟨rfl, d', n, os, hp, hs2, rfl⟩
    have hsz : l.toArray.size = acc.ext := by simpa using hl
    rw [← hsz] at hp hs2
    have hLy2 : LyM (MbOk P w) d'.toList (sortJ acc) := sort_lays (fun m k v h => h.1) hp hs2 (by simpa using apart_keys (fun m k v h => h.1) hLy hap) (by simpa using hLy)
    have hcg := sortM_chg (n := n) (d := d') (os := os) hg
    obtain ⟨hl2, hat⟩ := hLy2.at
    have hd : d'.size = acc.ext := hp.1.trans hsz
    have hH2 := holdsK_sortWorldK_c encM 7 w g 0 l.toArray d' n os hH hg hp.1
    have hb2 := sortM_blk (n := n) (d := d') (os := os) (show Blk w g (tyM true) cur.toList from hh)
    refine ⟨rfl, ?_, hcg.mono (fun b _ e => by rw [e]; rfl)⟩
    obtain ⟨cur', hcur'⟩ : ∃ c, (Go.Sort.putCells id 0 (Go.Sort.flatK encM 7 d') cur.toList.toArray) = c := ⟨_, rfl⟩
    have hsc : cur'.size = cap * stM true := by rw [← hcur', ← hs]; simp [Go.Sort.putCells]
    rw [hcur'] at hb2
    have hle : acc.ext * 7 ≤ cur'.size := by rw [hsc]; exact Nat.mul_le_mul_right 7 hn
    refine ⟨cur'.toList.take (acc.ext * 7), ⟨by simp [stM, kwM]; omega, .inr ⟨g, cap, cur', rfl, Nat.zero_le _, hb2, hn, hm, hsc, rfl⟩⟩, fun i hi => ?_⟩
    have hi2 : i < d'.toList.length := by simpa [hd] using hi
    have hm1 := hat i hi2
    refine MbOk.to (m := d'.toList[i]) ⟨hm1.1, hm1.2.1, hm1.2.2.stay (fun b o hb => hcg.cell (hP b hb).1 (fun e => (hP b hb).2 (by rw [e]; rfl))) (fun _ h => h)⟩ (fun j v hj => ?_)
    have hj7 : j < 7 := by have := (List.getElem?_eq_some_iff.1 hj).1; exact this
    have hc := (HoldsK.cell hH2 (i := i) (c := j) (by simpa using hi2) hj7).1
    rw [Nat.zero_add] at hc
    have e1 : d'[i]! = d'.toList[i] := by rw [getElem!_pos d' i (by simpa using hi2)]; simp
    have hjl : j < (encM d'.toList[i]).length := hj7
    have e2 : (encM d'.toList[i])[j]! = v := by
      rw [getElem!_pos (encM d'.toList[i]) j hjl]
      exact (List.getElem?_eq_some_iff.1 hj).2
    rw [e1, e2] at hc
    rw [List.getElem?_take, if_pos (by omega)]
    have hlt : i * 7 + j < cur'.toList.length := by simp; omega
    rw [hb2.cell (List.getElem?_eq_getElem hlt)] at hc
    rw [List.getElem?_eq_getElem hlt]
    exact hc
end Go.Proofs.YtajkgcmopmpihaaGreatDoor
namespace Go.Proofs.YtajkgcmopmpihaaGreatDoor
open Go.ChangeShapes Go.WideShapes Go.ChangeAt Go.RowKit Go.IntWalk
set_option linter.unusedVariables false
theorem RSt.pop {base : Nat} {w : World} {r : Nat} {s : List UInt8} {at_ ub cap : Nat} {f : Frm} {fs : List Frm} (h : RSt base w r s at_ (.slice (some ⟨ub, 0, none⟩) (fs.length + 1) cap) (f :: fs)) :
    RSt base (w.setCell ⟨r, 2, none⟩ (.slice (some ⟨ub, 0, none⟩) fs.length cap)) r s at_ (.slice (some ⟨ub, 0, none⟩) fs.length cap) fs := by
  have hc : Chg (· = r) w (w.setCell ⟨r, 2, none⟩ (.slice (some ⟨ub, 0, none⟩) fs.length cap)) := Chg.set1 (C := (· = r)) rfl _ _
  have hur : ub ≠ r := h.ur ub rfl
  refine ⟨h.blk.set_ 2 _, ?_, fun b e => h.ur b e, fun x hx => h.away x (List.mem_cons_of_mem _ hx), fun x hx => (h.ins x (List.mem_cons_of_mem _ hx)).chg hc (fun b hb e => (h.away x (List.mem_cons_of_mem _ hx)).1 (by rw [← e]; exact hb)), (List.pairwise_cons.1 h.apart).2, h.hr, ?_, h.hat, h.hs, fun x hx => h.sub x (List.mem_cons_of_mem _ hx)⟩
  · have ho := h.own
    unfold OwnVs at ho ⊢
    rcases ho.2 with ⟨h0, _⟩ | ⟨g, cap2, cur, hv, hb, hh, q1, q2, q3, q4⟩
    · cases h0
    · have hlen : ((f :: fs).reverse.map Frm.ptr).length = fs.length + 1 := by simp
      have hlen2 : (fs.reverse.map Frm.ptr).length = fs.length := by simp
      injection hv with e1 e2 e3
      injection e1 with e1
      injection e1 with e1
      subst e1 e3
      rw [hlen] at q1 q4
      rw [hlen2]
      refine ⟨by simp, .inr ⟨ub, cap, cur, rfl, hb, ?_, by omega, q2, q3, ?_⟩⟩
      · rw [hc.block ub (Array.getElem?_eq_some_iff.1 hh).1 hur]; exact hh
      · have := congrArg (List.take (fs.length * 1)) q4
        rw [List.take_take, Nat.min_eq_left (by omega)] at this
        rw [this]
        simp [List.reverse_cons, List.map_append]
  · have := h.len; simp at this; omega
theorem own_jslO {base n : Nat} {mem : Bool} {w : World} {L : Value} {cs : List Value} {t : JT} {P Q : Nat → Prop} (h0 : w.ownsRow base (tyM mem) (stM mem) L n cs) (hn : n = t.ext) (he : ∀ i, i < t.ext → RowE P mem w cs t i)
    (hPQ : ∀ b, P b → Q b) (hQ : ∀ g, L.ownBlock = some g → Q g) : ∃ (A : Option Addr) (c : Nat), L = .slice A n c ∧ n ≤ c ∧ JSl Q w mem A t := by
  rcases h0.2 with ⟨rfl, hn0⟩ | ⟨g, cap, cur, rfl, hb, hh, hnc, hmx, hs, ht⟩
  · refine ⟨none, 0, by rw [hn0], by omega, .inl ?_⟩
    cases t with
    | nil => rfl
    | cons => simp [JT.ext] at hn; omega
  · refine ⟨_, cap, rfl, hnc, .inr ⟨g, 0, rfl, hQ g rfl, JIn.of t mem g 0 (fun i hi => ?_)⟩⟩
    have hc : ∀ (k : Nat) (u : Value), cs[k]? = some u → w.cell? ⟨g, k, none⟩ = some u := fun k u hu => by
      rw [cell_of_row _ _ _ _ _ _ hh]
      rw [← ht] at hu
      simp only [List.getElem?_take] at hu
      split at hu
      · simpa using hu
      · cases hu
    obtain ⟨h2, e, h3, h4⟩ := he i hi
    refine ⟨?_, e, fun j v hj => ?_, h4.stay (fun _ _ _ => rfl) hPQ⟩
    · cases mem with
      | true => exact ⟨by rw [Nat.zero_add]; exact hc _ _ h2.1, h2.2⟩
      | false => exact h2
    · rw [Nat.zero_add]; exact hc _ _ (h3 j v hj)
theorem ins_ext : ∀ (t : JT) (k : List UInt8) (v : Jv), (t.ins k v).ext = t.ext + 1
  | .nil, k, v => by obtain ⟨_, _, _, _, _, _⟩ := v; rfl
  | .cons k0 kd is n s l m r, k, v => by
    obtain ⟨_, _, _, _, _, _⟩ := v
    simp only [JT.ins]
    split
    · simp only [JT.ext, ins_ext r k _]
    · simp [JT.one, JT.ext]
theorem sortA_ext : ∀ (t out : JT), (sortA out t).ext = out.ext + t.ext
  | .nil, out => by simp [sortA, JT.ext]
  | .cons k kd is n s l m r, out => by simp only [sortA, sortA_ext r, ins_ext, JT.ext]; omega
theorem sortJ_ext (t : JT) : (sortJ t).ext = t.ext := by unfold sortJ; rw [sortA_ext]; simp [JT.ext]
theorem RowP.part {P Q : Nat → Prop} {mem : Bool} {w : World} {L : Value} {t : JT} {k : Nat} (h : RowP P 0 mem w L t k) (hk : k = t.ext) (hPQ : ∀ b, P b → Q b) (hQ : ∀ g, L.ownBlock = some g → Q g) : ∃ (A : Option Addr) (c : Nat), L = .slice A k c ∧ k ≤ c ∧ JSl Q w mem A t := by
  obtain ⟨cs, h0, h1⟩ := h
  exact own_jslO h0 hk (fun i hi => h1 i (by rw [hk]; exact hi)) hPQ hQ
end Go.Proofs.YtajkgcmopmpihaaGreatDoor
namespace Go.Proofs.YtajkgcmopmpihaaGreatDoor
open Go.ChangeShapes Go.WideShapes Go.ChangeAt Go.RowKit Go.IntWalk
set_option linter.unusedVariables false
theorem size_v6 : (Tryz.prog.info? 25).map (·.size) = some 6 := by kernel_rfl
theorem cells6s {w : World} {g : Nat} {T : TypeId} {a0 a1 a2 a3 a4 a5 : Value} (h : Blk w g T [a0, a1, a2, a3, a4, a5]) : w.cell? ⟨g, 0, none⟩ = some a0 ∧ w.cell? ⟨g, 1, none⟩ = some a1 ∧ w.cell? ⟨g, 2, none⟩ = some a2 ∧ w.cell? ⟨g, 3, none⟩ = some a3 ∧ w.cell? ⟨g, 4, none⟩ = some a4 ∧ w.cell? ⟨g, 5, none⟩ = some a5 ∧
    w.frozen? ⟨g, 0, none⟩ = false ∧ w.frozen? ⟨g, 1, none⟩ = false ∧ w.frozen? ⟨g, 2, none⟩ = false ∧ w.frozen? ⟨g, 3, none⟩ = false ∧ w.frozen? ⟨g, 4, none⟩ = false ∧ w.frozen? ⟨g, 5, none⟩ = false :=
  ⟨h.cell rfl, h.cell rfl, h.cell rfl, h.cell rfl, h.cell rfl, h.cell rfl, h.frozen _, h.frozen _, h.frozen _, h.frozen _, h.frozen _, h.frozen _⟩
theorem res_cell6 {fn : Func} {p : Tmp} {ty : TypeId} (h : fn.results = #[.cell p ty]) (tmps : Array Value) (a : Addr) (v : Value) (W : World) (hp : tmps.getD p undef = .pointer (some a)) (hld : (loadVar ty a).run Tryz.prog W = .ok v W) : (results fn tmps).run Tryz.prog W = .ok v W := by
  simp only [Array.getD_eq_getD_getElem?] at hp
  simp [results, h, hp, asAddr, hld]
theorem res_cell62 {fn : Func} {p q : Tmp} {ty : TypeId} (h : fn.results = #[.cell p ty, .tmp q]) (tmps : Array Value) (a : Addr) (v u : Value) (W : World) (hp : tmps.getD p undef = .pointer (some a)) (hq : tmps.getD q undef = u) (hld : (loadVar ty a).run Tryz.prog W = .ok v W) : (results fn tmps).run Tryz.prog W = .ok (.tuple #[v, u]) W := by
  simp only [Array.getD_eq_getD_getElem?] at hp hq
  subst hq
  simp [results, h, hp, asAddr, hld]
end Go.Proofs.YtajkgcmopmpihaaGreatDoor
namespace Go.Proofs.YtajkgcmopmpihaaGreatDoor
open Go.ChangeShapes Go.WideShapes Go.ChangeAt Go.RowKit Go.IntWalk
set_option linter.unusedVariables false
section
variable {w : World} {g : Nat} {T : TypeId} {a0 a1 a2 a3 a4 a5 x0 x1 x2 x3 x4 x5 : Value}
def set6 (w : World) (g : Nat) (x0 x1 x2 x3 x4 x5 : Value) : World := (((((w.setCell ⟨g, 0, none⟩ x0).setCell ⟨g, 1, none⟩ x1).setCell ⟨g, 2, none⟩ x2).setCell ⟨g, 3, none⟩ x3).setCell ⟨g, 4, none⟩ x4).setCell ⟨g, 5, none⟩ x5
theorem blk6 (h : Blk w g T [a0, a1, a2, a3, a4, a5]) : Blk (set6 w g x0 x1 x2 x3 x4 x5) g T [x0, x1, x2, x3, x4, x5] :=
  (((((h.set_ 0 x0).set_ 1 x1).set_ 2 x2).set_ 3 x3).set_ 4 x4).set_ 5 x5
theorem below6 {B : Nat} {a : World} (h : Below B a w) (hg : B ≤ g) : Below B a (set6 w g x0 x1 x2 x3 x4 x5) :=
  (((((h.setCell hg _).setCell hg _).setCell hg _).setCell hg _).setCell hg _).setCell hg _
theorem cells6 (h : Blk w g T [a0, a1, a2, a3, a4, a5]) : w.cell? ⟨g, 0, none⟩ = some a0 ∧ w.cell? ⟨g, 1, none⟩ = some a1 ∧ w.cell? ⟨g, 2, none⟩ = some a2 ∧ w.cell? ⟨g, 3, none⟩ = some a3 ∧ w.cell? ⟨g, 4, none⟩ = some a4 ∧ w.cell? ⟨g, 5, none⟩ = some a5 ∧
    w.frozen? ⟨g, 0, none⟩ = false ∧ w.frozen? ⟨g, 1, none⟩ = false ∧ w.frozen? ⟨g, 2, none⟩ = false ∧ w.frozen? ⟨g, 3, none⟩ = false ∧ w.frozen? ⟨g, 4, none⟩ = false ∧ w.frozen? ⟨g, 5, none⟩ = false :=
  ⟨h.cell rfl, h.cell rfl, h.cell rfl, h.cell rfl, h.cell rfl, h.cell rfl, h.frozen _, h.frozen _, h.frozen _, h.frozen _, h.frozen _, h.frozen _⟩
end
end Go.Proofs.YtajkgcmopmpihaaGreatDoor
namespace Go.Proofs.YtajkgcmopmpihaaGreatDoor
open Go.ChangeShapes Go.WideShapes Go.ChangeAt Go.RowKit Go.IntWalk
set_option linter.unusedVariables false
set_option maxRecDepth 100000
def bareV (v : Jv) : Value := .agg #[.int .i64 v.kd, .bool v.is, .int .i64 v.n, .string ⟨v.s.toArray⟩, .slice none 0 0, .slice none 0 0]
theorem jbool_calls (b : Bool) (w : World) : Calls Tryz.prog 14 #[.bool b] w (fun e w' => e = .returned (bareV ⟨1, b, 0, [], .nil, .nil⟩) ∧ Below w.heap.size w w') := by
  have h0 := Lib.hid (And.intro (Blk.new w [.int .i64 0, .bool false, .int .i64 0, .string ⟨#[]⟩, .slice none 0 0, .slice none 0 0] 25) ((Below.refl w.heap.size w).alloc (Nat.le_refl _) (.cells #[.int .i64 0, .bool false, .int .i64 0, .string ⟨#[]⟩, .slice none 0 0, .slice none 0 0] 25)))
  go_enter Tryz.func14, Tryz.ntmps14
  go_upto_region 1 with fail
  refine wp_gen (fun W => Blk W w.heap.size 25 [.int .i64 0, .bool false, .int .i64 0, .string ⟨#[]⟩, .slice none 0 0, .slice none 0 0] ∧ Below w.heap.size w W) h0.out ?_
  clear h0
  rintro wg ⟨gz, gb⟩
  have HZ := Lib.hid gz
  have HB := Lib.hid gb
  obtain ⟨z0, z1, z2, z3, z4, z5, y0, y1, y2, y3, y4, y5⟩ := cells6s gz
  clear gb gz
  go_wp2_with fail
  exact bodyPost_ret (res_cell6 rfl _ ⟨w.heap.size, 0, none⟩ _ _ rfl (Blk.load (blk6 HZ.out) _ Tryz.underlying25 rfl size_v6)) rfl ⟨rfl, below6 HB.out (Nat.le_refl _)⟩
theorem jnum_calls (n : Int) (w : World) : Calls Tryz.prog 12 #[.int .i64 n] w (fun e w' => e = .returned (bareV ⟨2, false, n, [], .nil, .nil⟩) ∧ Below w.heap.size w w') := by
  have h0 := Lib.hid (And.intro (Blk.new w [.int .i64 0, .bool false, .int .i64 0, .string ⟨#[]⟩, .slice none 0 0, .slice none 0 0] 25) ((Below.refl w.heap.size w).alloc (Nat.le_refl _) (.cells #[.int .i64 0, .bool false, .int .i64 0, .string ⟨#[]⟩, .slice none 0 0, .slice none 0 0] 25)))
  go_enter Tryz.func12, Tryz.ntmps12
  go_upto_region 1 with fail
  refine wp_gen (fun W => Blk W w.heap.size 25 [.int .i64 0, .bool false, .int .i64 0, .string ⟨#[]⟩, .slice none 0 0, .slice none 0 0] ∧ Below w.heap.size w W) h0.out ?_
  clear h0
  rintro wg ⟨gz, gb⟩
  have HZ := Lib.hid gz
  have HB := Lib.hid gb
  obtain ⟨z0, z1, z2, z3, z4, z5, y0, y1, y2, y3, y4, y5⟩ := cells6s gz
  clear gb gz
  go_wp2_with fail
  exact bodyPost_ret (res_cell6 rfl _ ⟨w.heap.size, 0, none⟩ _ _ rfl (Blk.load (blk6 HZ.out) _ Tryz.underlying25 rfl size_v6)) rfl ⟨rfl, below6 HB.out (Nat.le_refl _)⟩
theorem jtext_calls (k : List UInt8) (w : World) : Calls Tryz.prog 60 #[.string ⟨k.toArray⟩] w (fun e w' => e = .returned (bareV ⟨3, false, 0, k, .nil, .nil⟩) ∧ Below w.heap.size w w') := by
  have h0 := Lib.hid (And.intro (Blk.new w [.int .i64 0, .bool false, .int .i64 0, .string ⟨#[]⟩, .slice none 0 0, .slice none 0 0] 25) ((Below.refl w.heap.size w).alloc (Nat.le_refl _) (.cells #[.int .i64 0, .bool false, .int .i64 0, .string ⟨#[]⟩, .slice none 0 0, .slice none 0 0] 25)))
  go_enter Tryz.func60, Tryz.ntmps60
  go_upto_region 1 with fail
  refine wp_gen (fun W => Blk W w.heap.size 25 [.int .i64 0, .bool false, .int .i64 0, .string ⟨#[]⟩, .slice none 0 0, .slice none 0 0] ∧ Below w.heap.size w W) h0.out ?_
  clear h0
  rintro wg ⟨gz, gb⟩
  have HZ := Lib.hid gz
  have HB := Lib.hid gb
  obtain ⟨z0, z1, z2, z3, z4, z5, y0, y1, y2, y3, y4, y5⟩ := cells6s gz
  clear gb gz
  go_wp2_with fail
  exact bodyPost_ret (res_cell6 rfl _ ⟨w.heap.size, 0, none⟩ _ _ rfl (Blk.load (blk6 HZ.out) _ Tryz.underlying25 rfl size_v6)) rfl ⟨rfl, below6 HB.out (Nat.le_refl _)⟩
def wordF (r : List UInt8) : Option (Jv × Nat) :=
  if [110, 117, 108, 108] <+: r then some (nullJ, 4)
  else if [116, 114, 117, 101] <+: r then some (⟨1, true, 0, [], .nil, .nil⟩, 4)
  else if [102, 97, 108, 115, 101] <+: r then some (⟨1, false, 0, [], .nil, .nil⟩, 5)
  else none
def WdPost (base : Nat) (w : World) (r : Nat) (s : List UInt8) (at_ : Nat) (U : Value) (fs : List Frm) (e : Ending) (w' : World) : Prop :=
  Chg (· = r) w w' ∧ ((wordF (s.drop at_) = none ∧ e = .panicked (flt 4)) ∨ ∃ v n, wordF (s.drop at_) = some (v, n) ∧ e = .returned (bareV v) ∧ 0 < n ∧ RSt base w' r s (at_ + n) U fs)
theorem pre_calls (p l : List UInt8) (w : World) : Calls Tryz.prog 83 #[.string ⟨l.toArray⟩, .string ⟨p.toArray⟩] w fun e w' => e = .returned (.bool (decide (p <+: l))) ∧ w = w' := by
  refine (Tryz.strings_HasPrefix ⟨l.toArray⟩ ⟨p.toArray⟩ w).mono ?_
  rintro e w' ⟨rfl, h⟩
  refine ⟨?_, h.symm⟩
  have : Lib.hasPrefix l p = decide (p <+: l) := by
    unfold Lib.hasPrefix
    rw [Bool.eq_iff_iff]; simp
  simp [this]
theorem word_room {r : Nat} {w : World} {s : List UInt8} {at_ n : Nat} {p : List UInt8} (h : p <+: s.drop at_) (hn : p.length = n) (h0 : 0 < n) : at_ + n ≤ s.length := by
  obtain ⟨q, hq⟩ := h
  have := congrArg List.length hq
  rw [List.length_append, List.length_drop] at this
  omega
theorem Blk.far1 {w : World} {g g2 : Nat} {T : TypeId} {cs : List Value} (h : Blk w g T cs) (hne : g ≠ g2) (k : Nat) (v : Value) : Blk (w.setCell ⟨g2, k, none⟩ v) g T cs := (Deep.blk_setCell_other _ _ _ _ hne).trans h
theorem chg6 {C : Nat → Prop} {w W : World} {g : Nat} {x0 x1 x2 x3 x4 x5 : Value} (h : Chg C w W) (hg : w.heap.size ≤ g) : Chg C w (set6 W g x0 x1 x2 x3 x4 x5) :=
  (((((h.setCell (.inr hg) _).setCell (.inr hg) _).setCell (.inr hg) _).setCell (.inr hg) _).setCell (.inr hg) _).setCell (.inr hg) _
theorem rst6 {base : Nat} {W : World} {r g : Nat} {s : List UInt8} {at_ : Nat} {U : Value} {fs : List Frm} {T : TypeId} {cs : List Value} {x0 x1 x2 x3 x4 x5 : Value} (h : RSt base W r s at_ U fs) (hr : r ≠ g) (hb : Blk W g T cs) (hU : ∀ b, U.ownBlock = some b → b ≠ g) (hF : ∀ f ∈ fs, ¬ f.F g) : RSt base (set6 W g x0 x1 x2 x3 x4 x5) r s at_ U fs := by
  have hc : Chg (· = g) W (set6 W g x0 x1 x2 x3 x4 x5) := (((((((Chg.refl (· = g) W).setCell (.inl rfl) _).setCell (.inl rfl) _).setCell (.inl rfl) _).setCell (.inl rfl) _).setCell (.inl rfl) _).setCell (.inl rfl) _)
  refine ⟨hc.blk h.blk hr, ?_, h.ur, h.away, fun f hf => (h.ins f hf).chg hc (fun b hb e => hF f hf (by rw [← e]; exact hb)), h.apart, h.hr, h.len, h.hat, h.hs, h.sub⟩
  refine ⟨h.own.1, ?_⟩
  rcases h.own.2 with h3 | ⟨q, cap, cur, hv, hb2, hh, rest⟩
  · exact .inl h3
  · exact .inr ⟨q, cap, cur, hv, hb2, by rw [hc.block q ((Array.getElem?_eq_some_iff.1 hh).1) (hU q (by rw [hv]; rfl))]; exact hh, rest⟩
set_option maxHeartbeats 4000000 in
theorem word_calls (base : Nat) (w : World) (r : Nat) (s : List UInt8) (at_ : Nat) (U : Value) (fs : List Frm) (h : RSt base w r s at_ U fs) : Calls Tryz.prog 63 #[.pointer (some ⟨r, 0, none⟩)] w (WdPost base w r s at_ U fs) := by
  have b0 : Below w.heap.size w (w.alloc (.cells #[.int .i64 0, .bool false, .int .i64 0, .string ⟨#[]⟩, .slice none 0 0, .slice none 0 0] 25)) := (Below.refl _ _).alloc (Nat.le_refl _) _
  have HI := Lib.hid (And.intro (h.later b0) (And.intro b0 (Blk.new w [.int .i64 0, .bool false, .int .i64 0, .string ⟨#[]⟩, .slice none 0 0, .slice none 0 0] 25)))
  obtain ⟨n, hn⟩ : ∃ n, s.length = n := ⟨_, rfl⟩
  have hsz : (⟨s.toArray⟩ : ByteArray).size = n := hn
  have hat : at_ ≤ n := by rw [← hn]; exact h.hat
  have hn6 : n ≤ 65536 := by rw [← hn]; exact h.hs
  have HN := Lib.hid hn
  have HRW := Lib.hid h.lt
  have HUF := Lib.hid (show (∀ b, U.ownBlock = some b → b ≠ w.heap.size) ∧ ∀ f ∈ fs, ¬ f.F w.heap.size from ⟨fun b e => Nat.ne_of_lt (h.own.lt b e).2, fun f hf hb => absurd ((h.ins f hf).2.2.2.2.1 _ hb).2 (Nat.lt_irrefl _)⟩)
  clear h b0 hn
  go_enter Tryz.func63, Tryz.ntmps63
  go_upto_region 1 with fail
  refine wp_gen (fun W => RSt base W r s at_ U fs ∧ Below w.heap.size w W ∧ Blk W w.heap.size 25 [.int .i64 0, .bool false, .int .i64 0, .string ⟨#[]⟩, .slice none 0 0, .slice none 0 0]) HI.out ?_
  clear HI
  rintro W0 ⟨g1, g2, g3⟩
  have H0 := Lib.hid (And.intro g1 (And.intro g2 g3))
  have d0 := g1.blk.cell (k := 0) rfl
  have d1 := g1.blk.cell (k := 1) rfl
  have HL := Lib.hid g1.lt
  clear g1 g2 g3
  apply wp_region_lk (by kernel_rfl) (by kernel_rfl)
  apply lk_pure _ rfl (by intro W; go_simp; rfl)
  simp only [Act.put, List.setIfInBounds_toArray, List.set_cons_succ, List.set_cons_zero]
  apply lk_pure _ rfl (by intro W; go_simp; rfl)
  simp only [Act.put, List.setIfInBounds_toArray, List.set_cons_succ, List.set_cons_zero]
  apply lk_pure _ rfl (by intro W; go_simp; rfl)
  simp only [Act.put, List.setIfInBounds_toArray, List.set_cons_succ, List.set_cons_zero]
  apply lk_cell (.string ⟨s.toArray⟩) (r) (0) d0 HL.out rfl (by intro W hW; go_simp)
  simp only [Act.put, List.setIfInBounds_toArray, List.set_cons_succ, List.set_cons_zero]
  apply lk_pure _ rfl (by intro W; go_simp; rfl)
  simp only [Act.put, List.setIfInBounds_toArray, List.set_cons_succ, List.set_cons_zero]
  apply lk_pure _ rfl (by intro W; go_simp; rfl)
  simp only [Act.put, List.setIfInBounds_toArray, List.set_cons_succ, List.set_cons_zero]
  apply lk_pure _ rfl (by intro W; go_simp; rfl)
  simp only [Act.put, List.setIfInBounds_toArray, List.set_cons_succ, List.set_cons_zero]
  apply lk_cell (.int .i64 (at_ : Int)) (r) (1) d1 HL.out rfl (by intro W hW; go_simp)
  simp only [Act.put, List.setIfInBounds_toArray, List.set_cons_succ, List.set_cons_zero]
  apply lk_pure _ rfl (by intro W; go_simp; rfl)
  simp only [Act.put, List.setIfInBounds_toArray, List.set_cons_succ, List.set_cons_zero]
  apply lk_pure _ rfl (by intro W; go_simp; rfl)
  simp only [Act.put, List.setIfInBounds_toArray, List.set_cons_succ, List.set_cons_zero]
  refine lk_nil (Fs := []) ?_
  intro W1 hb7 hz
  rw [show (s.take n).drop at_ = s.drop at_ by rw [← HN.out, List.take_length]]
  have H1 := Lib.hid (And.intro (H0.out.1.later hb7) (And.intro (H0.out.2.1.then_ hb7) (H0.out.2.2.later hb7)))
  have HNE := Lib.hid (show r ≠ w.heap.size by have := HRW.out; omega)
  obtain ⟨L, hL⟩ : ∃ L, s.drop at_ = L := ⟨_, rfl⟩
  have HD := Lib.hid hL
  rw [hL]
  clear d0 d1 hb7 hz H0 hL
  by_cases h0 : [110, 117, 108, 108] <+: L
  · have hd0 : decide ([110, 117, 108, 108] <+: L) = true := decide_eq_true h0
    have hr : at_ + 4 ≤ s.length := word_room (r := r) (w := w) (p := [110, 117, 108, 108]) (by rw [HD.out]; exact h0) rfl (by decide)
    have HW := Lib.hid (show wordF L = some (nullJ, 4) by unfold wordF;  rw [if_pos h0])
    clear h0
    have d1 := H1.out.1.blk.cell (k := 1) rfl
    have f1 := H1.out.1.blk.frozen 1
    obtain ⟨z0, z1, z2, z3, z4, z5, y0, y1, y2, y3, y4, y5⟩ := cells6s H1.out.2.2
    have HLT := Lib.hid H1.out.2.2.lt
    go_wp2_with fail
    refine (pre_calls [110, 117, 108, 108] L W1).mono ?_
    rintro e w2 ⟨rfl, rfl⟩
    go_upto_region 4 with fail
    have hbr : Blk (W1.setCell ⟨r, 1, none⟩ (.int .i64 ((at_ : Int) + 4))) r 50 [.string ⟨s.toArray⟩, .int .i64 ((at_ + 4 : Nat) : Int), U] := H1.out.1.blk.set_ 1 (.int .i64 ((at_ : Int) + 4))
    have H2 := Lib.hid (And.intro (H1.out.1.move (Chg.set1 (C := (· = r)) rfl _ _) hbr (by omega) hr) (And.intro ((Chg.of H1.out.2.1 : Chg (· = r) w W1).setCell (k := 1) (.inl rfl) (.int .i64 ((at_ : Int) + 4))) (H1.out.2.2.far1 (Ne.symm HNE.out) 1 (.int .i64 ((at_ : Int) + 4)))))
    clear hbr d1 f1 z0 z1 z2 z3 z4 z5 y0 y1 y2 y3 y4 y5
    obtain ⟨z0, z1, z2, z3, z4, z5, y0, y1, y2, y3, y4, y5⟩ := cells6s H2.out.2.2
    go_wp2_with fail
    exact bodyPost_ret (res_cell6 rfl _ ⟨w.heap.size, 0, none⟩ _ _ rfl (Blk.load (blk6 H2.out.2.2) _ Tryz.underlying25 rfl size_v6)) rfl ⟨chg6 H2.out.2.1 (Nat.le_refl _), .inr ⟨_, 4, by rw [HD.out]; exact HW.out, rfl, by decide, rst6 H2.out.1 HNE.out H2.out.2.2 HUF.out.1 HUF.out.2⟩⟩
  ·
    by_cases h1 : [116, 114, 117, 101] <+: L
    · have hd1 : decide ([116, 114, 117, 101] <+: L) = true := decide_eq_true h1
      have hr : at_ + 4 ≤ s.length := word_room (r := r) (w := w) (p := [116, 114, 117, 101]) (by rw [HD.out]; exact h1) rfl (by decide)
      have HW := Lib.hid (show wordF L = some (⟨1, true, 0, [], .nil, .nil⟩, 4) by unfold wordF; rw [if_neg h0]; rw [if_pos h1])
      clear h1
      have d1 := H1.out.1.blk.cell (k := 1) rfl
      have f1 := H1.out.1.blk.frozen 1
      obtain ⟨z0, z1, z2, z3, z4, z5, y0, y1, y2, y3, y4, y5⟩ := cells6s H1.out.2.2
      have HLT := Lib.hid H1.out.2.2.lt
      have hdn0 : decide ([110, 117, 108, 108] <+: L) = false := decide_eq_false h0
      go_wp2_with fail
      refine (pre_calls [110, 117, 108, 108] L W1).mono ?_
      rintro e w2 ⟨rfl, rfl⟩
      go_wp2_with fail
      refine (pre_calls [116, 114, 117, 101] L W1).mono ?_
      rintro e w2 ⟨rfl, rfl⟩
      go_wp2_with fail
      refine (jbool_calls (true) _).mono ?_
      rintro e w3 ⟨rfl, b3⟩
      unfold bareV
      have b3r : Below (W1.setCell ⟨r, 1, none⟩ (.int .i64 ((at_ : Int) + 4))).heap.size (W1.setCell ⟨r, 1, none⟩ (.int .i64 ((at_ : Int) + 4))) w3 := b3
      have hbr : Blk (W1.setCell ⟨r, 1, none⟩ (.int .i64 ((at_ : Int) + 4))) r 50 [.string ⟨s.toArray⟩, .int .i64 ((at_ + 4 : Nat) : Int), U] := H1.out.1.blk.set_ 1 (.int .i64 ((at_ : Int) + 4))
      have H2 := Lib.hid (And.intro ((H1.out.1.move (Chg.set1 (C := (· = r)) rfl _ _) hbr (by omega) hr).later b3r) (And.intro (((Chg.of H1.out.2.1 : Chg (· = r) w W1).setCell (k := 1) (.inl rfl) (.int .i64 ((at_ : Int) + 4))).thenB b3r) ((H1.out.2.2.far1 (Ne.symm HNE.out) 1 (.int .i64 ((at_ : Int) + 4))).later b3r)))
      clear b3 b3r hbr d1 f1 z0 z1 z2 z3 z4 z5 y0 y1 y2 y3 y4 y5
      obtain ⟨z0, z1, z2, z3, z4, z5, y0, y1, y2, y3, y4, y5⟩ := cells6s H2.out.2.2
      go_wp2_with fail
      exact bodyPost_ret (res_cell6 rfl _ ⟨w.heap.size, 0, none⟩ _ _ rfl (Blk.load (blk6 H2.out.2.2) _ Tryz.underlying25 rfl size_v6)) rfl ⟨chg6 H2.out.2.1 (Nat.le_refl _), .inr ⟨_, 4, by rw [HD.out]; exact HW.out, rfl, by decide, rst6 H2.out.1 HNE.out H2.out.2.2 HUF.out.1 HUF.out.2⟩⟩
    ·
      by_cases h2 : [102, 97, 108, 115, 101] <+: L
      · have hd2 : decide ([102, 97, 108, 115, 101] <+: L) = true := decide_eq_true h2
        have hr : at_ + 5 ≤ s.length := word_room (r := r) (w := w) (p := [102, 97, 108, 115, 101]) (by rw [HD.out]; exact h2) rfl (by decide)
        have HW := Lib.hid (show wordF L = some (⟨1, false, 0, [], .nil, .nil⟩, 5) by unfold wordF; rw [if_neg h0]; rw [if_neg h1]; rw [if_pos h2])
        clear h2
        have d1 := H1.out.1.blk.cell (k := 1) rfl
        have f1 := H1.out.1.blk.frozen 1
        obtain ⟨z0, z1, z2, z3, z4, z5, y0, y1, y2, y3, y4, y5⟩ := cells6s H1.out.2.2
        have HLT := Lib.hid H1.out.2.2.lt
        have hdn0 : decide ([110, 117, 108, 108] <+: L) = false := decide_eq_false h0
        have hdn1 : decide ([116, 114, 117, 101] <+: L) = false := decide_eq_false h1
        go_wp2_with fail
        refine (pre_calls [110, 117, 108, 108] L W1).mono ?_
        rintro e w2 ⟨rfl, rfl⟩
        go_wp2_with fail
        refine (pre_calls [116, 114, 117, 101] L W1).mono ?_
        rintro e w2 ⟨rfl, rfl⟩
        go_wp2_with fail
        refine (pre_calls [102, 97, 108, 115, 101] L W1).mono ?_
        rintro e w2 ⟨rfl, rfl⟩
        go_wp2_with fail
        refine (jbool_calls (false) _).mono ?_
        rintro e w3 ⟨rfl, b3⟩
        unfold bareV
        have b3r : Below (W1.setCell ⟨r, 1, none⟩ (.int .i64 ((at_ : Int) + 5))).heap.size (W1.setCell ⟨r, 1, none⟩ (.int .i64 ((at_ : Int) + 5))) w3 := b3
        have hbr : Blk (W1.setCell ⟨r, 1, none⟩ (.int .i64 ((at_ : Int) + 5))) r 50 [.string ⟨s.toArray⟩, .int .i64 ((at_ + 5 : Nat) : Int), U] := H1.out.1.blk.set_ 1 (.int .i64 ((at_ : Int) + 5))
        have H2 := Lib.hid (And.intro ((H1.out.1.move (Chg.set1 (C := (· = r)) rfl _ _) hbr (by omega) hr).later b3r) (And.intro (((Chg.of H1.out.2.1 : Chg (· = r) w W1).setCell (k := 1) (.inl rfl) (.int .i64 ((at_ : Int) + 5))).thenB b3r) ((H1.out.2.2.far1 (Ne.symm HNE.out) 1 (.int .i64 ((at_ : Int) + 5))).later b3r)))
        clear b3 b3r hbr d1 f1 z0 z1 z2 z3 z4 z5 y0 y1 y2 y3 y4 y5
        obtain ⟨z0, z1, z2, z3, z4, z5, y0, y1, y2, y3, y4, y5⟩ := cells6s H2.out.2.2
        go_wp2_with fail
        exact bodyPost_ret (res_cell6 rfl _ ⟨w.heap.size, 0, none⟩ _ _ rfl (Blk.load (blk6 H2.out.2.2) _ Tryz.underlying25 rfl size_v6)) rfl ⟨chg6 H2.out.2.1 (Nat.le_refl _), .inr ⟨_, 5, by rw [HD.out]; exact HW.out, rfl, by decide, rst6 H2.out.1 HNE.out H2.out.2.2 HUF.out.1 HUF.out.2⟩⟩
      · have hdn0 : decide ([110, 117, 108, 108] <+: L) = false := decide_eq_false h0
        have hdn1 : decide ([116, 114, 117, 101] <+: L) = false := decide_eq_false h1
        have hdn2 : decide ([102, 97, 108, 115, 101] <+: L) = false := decide_eq_false h2
        have HW := Lib.hid (show wordF L = none by unfold wordF; rw [if_neg h0, if_neg h1, if_neg h2])
        go_wp2_with fail
        refine (pre_calls [110, 117, 108, 108] L W1).mono ?_
        rintro e w2 ⟨rfl, rfl⟩
        go_wp2_with fail
        refine (pre_calls [116, 114, 117, 101] L W1).mono ?_
        rintro e w2 ⟨rfl, rfl⟩
        go_wp2_with fail
        refine (pre_calls [102, 97, 108, 115, 101] L W1).mono ?_
        rintro e w2 ⟨rfl, rfl⟩
        go_wp2_with fail
        refine (giveUp_calls _ _).mono ?_
        rintro e w2 ⟨rfl, rfl⟩
        go_wp2_with fail
        exact ⟨rfl, Chg.of H1.out.2.1, .inl ⟨by rw [HD.out]; exact HW.out, rfl⟩⟩
end Go.Proofs.YtajkgcmopmpihaaGreatDoor
namespace Go.Proofs.YtajkgcmopmpihaaGreatDoor
open Go.ChangeShapes Go.WideShapes Go.ChangeAt Go.RowKit Go.IntWalk
set_option linter.unusedVariables false
set_option maxRecDepth 100000
def UnfV (w : World) (F : Nat → Prop) (A B : Option Addr) : Prop := ∀ a, (A = some a ∨ B = some a) → F a.block ∧ ∃ T cs, Blk w a.block T cs
theorem UnfV.to {w w' : World} {F : Nat → Prop} {A B : Option Addr} (h : UnfV w F A B) (hb : ∀ b, F b → w'.heap[b]? = w.heap[b]?) : UnfV w' F A B := fun a ha => ⟨(h a ha).1, by obtain ⟨T, cs, hc⟩ := (h a ha).2; exact ⟨T, cs, (hb _ (h a ha).1).trans hc⟩⟩
theorem UnfV.none (w : World) (F : Nat → Prop) : UnfV w F .none .none := fun a ha => by rcases ha with h | h <;> cases h
theorem UnfV.swap {w : World} {F : Nat → Prop} {A B : Option Addr} (h : UnfV w F A B) : UnfV w F B A := fun a ha => h a ha.symm
theorem RowP.unf {P F : Nat → Prop} {mem : Bool} {w : World} {A : Option Addr} {n c k b0 : Nat} {t : JT} (h : RowP P b0 mem w (.slice A n c) t k) (hF : ∀ q, (Value.slice A n c).ownBlock = some q → F q) : UnfV w F A .none := by
  obtain ⟨cs, h0, h1⟩ := h
  intro a ha
  rcases ha with rfl | ha
  · rcases h0.2 with ⟨e, _⟩ | ⟨g, cap, cur, e, hb, hh, r⟩
    · cases e
    · injection e with e1 e2 e3
      injection e1 with e1
      subst e1
      exact ⟨hF g rfl, _, cur.toList, by unfold Blk; rw [hh]⟩
  · cases ha
def ClPost (base : Nat) (w : World) (r : Nat) (s : List UInt8) (at_ : Nat) (v : Jv) (F : Nat → Prop) (fs : List Frm) (e : Ending) (w' : World) : Prop :=
  Chg (fun b => b = r ∨ F b) w w' ∧ ∃ A nl cl B nm cm U', e = .returned (.agg #[.int .i64 v.kd, .bool v.is, .int .i64 v.n, .string ⟨v.s.toArray⟩, .slice A nl cl, .slice B nm cm]) ∧ VPar F w' v A B nl cl nm cm ∧ RSt base w' r s at_ U' fs ∧ (∀ b, U'.ownBlock = some b → ¬ F b) ∧ UnfV w' F A B
set_option maxHeartbeats 4000000 in
theorem close_list (base : Nat) (w : World) (r : Nat) (s : List UInt8) (at_ : Nat) (U : Value) (acc : JT) (g : Nat) (L : Value) (mb : Nat) (F : Nat → Prop) (fs : List Frm) (h : RSt base w r s at_ U (⟨.l acc, g, L, mb, F⟩ :: fs)) :
    Calls Tryz.prog 58 #[.pointer (some ⟨r, 0, none⟩)] w (ClPost base w r s at_ (lstV acc) F fs) := by
  have b0 : Below w.heap.size w (w.alloc (.cells #[.int .i64 0, .bool false, .int .i64 0, .string ⟨#[]⟩, .slice none 0 0, .slice none 0 0] 25)) := (Below.refl _ _).alloc (Nat.le_refl _) _
  have HI := Lib.hid (And.intro (h.later b0) (And.intro b0 (Blk.new w [.int .i64 0, .bool false, .int .i64 0, .string ⟨#[]⟩, .slice none 0 0, .slice none 0 0] 25)))
  have HLW := Lib.hid h.lt
  obtain ⟨ub, cap, hU, hub, _, _, hubF⟩ := h.top
  subst hU
  obtain ⟨m, hm⟩ : ∃ m, fs.length = m := ⟨_, rfl⟩
  have hm32 : m ≤ 32 := by have := h.len; simp at this; omega
  have HM := Lib.hid hm
  rw [hm] at HI
  have hwr : IntKind.i64.wrap (m : Int) = (m : Int) := IntWalk.i64_in _ (by omega)
  have hmc : (m : Int) ≤ (cap : Int) := by
    obtain ⟨A', n', cap', hU', _, hn', hnc'⟩ := h.own.form
    injection hU' with e1 e2 e3
    omega
  have HFW := Lib.hid (show ∀ b, F b → b < w.heap.size from fun b hb => ((h.ins _ (List.mem_cons_self ..)).2.2.2.2.1 b hb).2)
  have HX6 := Lib.hid (show acc.ext ≤ 65536 from Nat.le_trans (h.sub _ (List.mem_cons_self ..)) (Nat.le_trans h.hat h.hs))
  have HUB := Lib.hid hub
  have HU2 := Lib.hid (show ∀ b, (Value.slice (some ⟨ub, 0, none⟩) m cap).ownBlock = some b → ¬ F b from fun b e => by
    have e2 : ub = b := by injection e
    rw [← e2]; exact hubF)
  have HFF := Lib.hid (show ∀ f ∈ fs, ¬ f.F w.heap.size from fun f hf hb => absurd ((h.ins f (List.mem_cons_of_mem _ hf)).2.2.2.2.1 _ hb).2 (Nat.lt_irrefl _))
  clear h b0 hub hubF
  go_enter Tryz.func58, Tryz.ntmps58
  go_upto_region 1 with fail
  refine wp_gen (fun W => RSt base W r s at_ (.slice (some ⟨ub, 0, none⟩) (m + 1) cap) (⟨.l acc, g, L, mb, F⟩ :: fs) ∧ Below w.heap.size w W ∧ Blk W w.heap.size 25 [.int .i64 0, .bool false, .int .i64 0, .string ⟨#[]⟩, .slice none 0 0, .slice none 0 0]) HI.out ?_
  clear HI
  rintro W0 ⟨g1, g2, g3⟩
  have H0 := Lib.hid (And.intro g1 (And.intro g2 g3))
  obtain ⟨ub2, cap2, hU2, hub, dt, _, _⟩ := g1.top
  injection hU2 with e1 e2 e3
  injection e1 with e1
  injection e1 with e1
  subst e1
  have d2 := g1.blk.cell (k := 2) rfl
  have f2 := g1.blk.frozen 2
  rw [hm] at dt
  have dt2 : W0.cell? ⟨ub, m, none⟩ = some (.iface 90 (.pointer (some ⟨g, 0, none⟩))) := dt
  have hin := g1.ins _ (List.mem_cons_self ..)
  have hgr : g ≠ r := fun e => (g1.away _ (List.mem_cons_self ..)).1 (by rw [← e]; exact hin.2.1)
  have hl : Blk W0 g 92 [L] := hin.1.1
  have hpop := RSt.pop (by rw [← HM.out] at g1; exact g1)
  rw [HM.out] at hpop
  have hc1 : Chg (· = r) W0 (W0.setCell ⟨r, 2, none⟩ (.slice (some ⟨ub, 0, none⟩) m cap)) := Chg.set1 (C := (· = r)) rfl _ _
  have H1 := Lib.hid (And.intro hpop (And.intro ((Chg.of g2 : Chg (fun b => b = r ∨ F b) w W0).then_ (hc1.mono (fun b _ e => .inl e))) (And.intro (hl.far1 hgr 2 (.slice (some ⟨ub, 0, none⟩) m cap)) (And.intro (g3.far1 (Nat.ne_of_gt HLW.out) 2 (.slice (some ⟨ub, 0, none⟩) m cap)) (hin.chg hc1 (fun b hb e => (g1.away _ (List.mem_cons_self ..)).1 (by rw [← e]; exact hb)))))))
  clear dt g1 g2 g3 hm e2 e3 hin hgr hl hpop hc1
  go_upto_region 4 with fail
  refine wp_gen (fun W => RSt base W r s at_ (.slice (some ⟨ub, 0, none⟩) m cap) fs ∧ Chg (fun b => b = r ∨ F b) w W ∧ Blk W g 92 [L] ∧ Blk W w.heap.size 25 [.int .i64 0, .bool false, .int .i64 0, .string ⟨#[]⟩, .slice none 0 0, .slice none 0 0] ∧ FIn base W ⟨.l acc, g, L, mb, F⟩) H1.out ?_
  clear H1 H0 d2 f2 dt2
  rintro W1 ⟨g1, g2, g3, g4, g5⟩
  have HU1 := Lib.hid (show ∀ b, (Value.slice (some ⟨ub, 0, none⟩) m cap).ownBlock = some b → b ≠ w.heap.size from fun b e => by
    have e2 : ub = b := by injection e
    rw [← e2]; exact Nat.ne_of_lt HUB.out)
  obtain ⟨h1f, h2f, h3f, h4f, h5f, P, hrow, hPf⟩ := g5
  obtain ⟨A, c, hL, hac, hjs⟩ := RowP.part (Q := F) hrow rfl (fun b hb => (hPf b hb).1) (fun q hq => (h4f q hq).1)
  have hL2 : L = .slice A acc.ext c := hL
  subst hL2
  have H2 := Lib.hid (And.intro g1 (And.intro g2 (And.intro g4 (And.intro (show JSl F W1 false A acc from hjs) (show acc.ext ≤ c ∧ UnfV W1 F A .none from ⟨hac, RowP.unf hrow (fun q hq => (h4f q hq).1)⟩)))))
  have dl := g3.cell (k := 0) rfl
  obtain ⟨n, hn⟩ : ∃ n, acc.ext = n := ⟨_, rfl⟩
  rw [hn] at dl
  have HNN := Lib.hid hn
  obtain ⟨z0, z1, z2, z3, z4, z5, y0, y1, y2, y3, y4, y5⟩ := cells6s g4
  have hta : (Instr.typeAssert (.iface 90 (.pointer (some ⟨g, 0, none⟩))) 20 90 true).run Tryz.prog W1 = .ok (.tuple #[.pointer (some ⟨g, 0, none⟩), .bool true]) W1 := by first | rfl | (unfold Instr.typeAssert; go_simp; rfl) | (unfold Instr.typeAssert; go_simp; done)
  clear g1 g2 g3 g4 h1f h2f h3f h4f h5f hrow hPf hL hac hjs hn
  go_wp2_with fail
  have hcs : Chg (· = w.heap.size) W1 (set6 W1 w.heap.size (.int .i64 4) (.bool false) (.int .i64 0) (.string ⟨#[]⟩) (.slice A n c) (.slice none 0 0)) := (((((((Chg.refl (· = w.heap.size) W1).setCell (.inl rfl) _).setCell (.inl rfl) _).setCell (.inl rfl) _).setCell (.inl rfl) _).setCell (.inl rfl) _).setCell (.inl rfl) _)
  refine bodyPost_ret (res_cell6 rfl _ ⟨w.heap.size, 0, none⟩ _ _ rfl (Blk.load (blk6 H2.out.2.2.1) _ Tryz.underlying25 rfl size_v6)) rfl ⟨chg6 H2.out.2.1 (Nat.le_refl _), A, n, c, none, 0, 0, _, rfl, ?_, rst6 H2.out.1 (Nat.ne_of_lt HLW.out) H2.out.2.2.1 HU1.out HFF.out, HU2.out, H2.out.2.2.2.2.2.to (fun b hb => hcs.block b (Nat.lt_of_lt_of_le (HFW.out b hb) (Nat.le_of_lt H2.out.2.2.1.lt)) (Nat.ne_of_lt (HFW.out b hb)))⟩
  refine ⟨⟨HNN.out.symm, by rw [← HNN.out]; exact H2.out.2.2.2.2.1, by have := HX6.out; rw [HNN.out] at this; omega⟩, ⟨rfl, Nat.le_refl _, Nat.zero_le _⟩, H2.out.2.2.2.1.stay (fun b o hb => hcs.cell (Nat.lt_of_lt_of_le (HFW.out b hb) (Nat.le_of_lt H2.out.2.2.1.lt)) (Nat.ne_of_lt (HFW.out b hb))) (fun _ h => h), .inl rfl, ?_⟩
  show Fit 4 0 []
  exact ⟨⟨by decide, by decide⟩, ⟨by decide, by decide⟩, by decide⟩
end Go.Proofs.YtajkgcmopmpihaaGreatDoor
