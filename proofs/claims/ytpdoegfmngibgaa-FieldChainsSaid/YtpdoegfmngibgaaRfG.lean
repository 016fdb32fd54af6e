/- Layer 4: the document's bytes of a number. -/
import Derived.Test.YtpdoegfmngibgaaRfF
import Derived.Test.YtpdoegfmngibgaaLit
namespace Go.Proofs.Ytpdoegfmngibgaa
open Go.ChangeShapes Go.WideShapes Go.ChangeAt Go.RowKit Go.IntWalk
set_option linter.unusedVariables false

def lowB (d : Int) : UInt8 := UInt8.ofNat (d.toNat % 256)
def highB (d : Int) : UInt8 := UInt8.ofNat (d.toNat / 256)
def bytesD (es : List Int) : List UInt8 := es.flatMap fun d => [lowB d, highB d]
theorem lowB_eq (d : Int) (h : 0 ≤ d ∧ d < 65536) : d % 256 = ((lowB d).toNat : Int) := by
  unfold lowB; simp; omega
theorem highB_eq (d : Int) (h : 0 ≤ d ∧ d < 65536) : d / 256 = ((highB d).toNat : Int) := by
  unfold highB; simp; omega
theorem bytesD_leB : ∀ es : List Int, (∀ x ∈ es, 0 ≤ x ∧ x < 65536) → bytesD es = leB (2 * es.length) (valD es).toNat
  | [], _ => rfl
  | d :: es, h => by
    have ih := bytesD_leB es fun x hx => h x (List.mem_cons_of_mem _ hx)
    have hd := h d (List.mem_cons_self ..)
    have hv := (valD_lt es fun x hx => h x (List.mem_cons_of_mem _ hx)).1
    rw [show 2 * (d :: es).length = 2 * es.length + 1 + 1 by simp; omega]
    simp only [leB, valD]
    have e1 : (d + 65536 * valD es).toNat % 256 = d.toNat % 256 := by omega
    have e2 : (d + 65536 * valD es).toNat / 256 % 256 = d.toNat / 256 := by omega
    have e3 : (d + 65536 * valD es).toNat / 256 / 256 = (valD es).toNat := by omega
    rw [e1, e2, e3, ← ih]
    rfl
theorem bytesD_take (es : List Int) (k : Nat) (d : Int) (h : es[k]? = some d) : bytesD (es.take (k + 1)) = bytesD (es.take k) ++ [lowB d, highB d] := by
  obtain ⟨hk, rfl⟩ := List.getElem?_eq_some_iff.1 h
  unfold bytesD
  rw [List.take_succ_eq_append_getElem hk, List.flatMap_append]
  rfl
theorem bytesD_len (es : List Int) : (bytesD es).length = 2 * es.length := by
  induction es with
  | nil => rfl
  | cons d es ih => simp [bytesD] at ih ⊢; omega
set_option maxRecDepth 100000 in
set_option maxHeartbeats 8000000 in
theorem refBytes_calls (v : Value) (r : Nat) (hv : IsNum v r) (w : World) :
    Calls Try.prog 35 #[v] w fun e w' => e = .returned (.string ⟨(leB 32 (r % P)).toArray⟩) ∧ Below w.heap.size w w' := by
  obtain ⟨ds, rfl, hok, hval⟩ := hv
  unfold A16
  have hle : ∀ W, Calls Try.prog 38 #[.agg (i64s ds).toArray] W (RLeast r W) := fun W => refLeast_calls ds hok r hval W
  have h0 : NBlk (w.alloc (.cells (i64s ds).toArray 33)) w.heap.size ds := NBlk.new _
  have hsz := size16' ds hok.1
  obtain ⟨cs, hcs⟩ : ∃ cs, i64s ds = cs := ⟨_, rfl⟩
  have hrg := h0.rng
  have hdl := hok.1
  rw [hcs] at hle h0 hsz hrg ⊢
  have H0 := Lib.hid (And.intro h0 (And.intro hrg (And.intro hsz (And.intro hle hdl))))
  clear h0 hrg hsz hle hdl hcs hok hval
  go_enter Try.func35, Try.ntmps35
  go_wp2_with (refine wpList_load_mid rfl 33 _ rfl w.heap.size 0 rfl cs _ H0.out.2.1 Try.underlying33 rfl H0.out.2.2.1 ?_)
  refine (H0.out.2.2.2.1 _).mono ?_
  rintro e w1 ⟨es, rfl, hdg, hve, b1⟩
  have n1 := H0.out.1.later b1
  have HT := Lib.hid (n1.there (n := (i64s es).toArray.size) (by simp [i64s, hdg.1, H0.out.2.2.2.2]))
  have HS := Lib.hid (size16a es hdg.1)
  have HO := Lib.hid (one16 es)
  have n2 := n1.setAll (ms := es) (by rw [H0.out.2.2.2.2, hdg.1])
  have hb2 := below_cells (Nat.le_refl w.heap.size) (i64s es) 0 _ (below1 b1)
  have HN2 := Lib.hid (And.intro n2 hb2)
  have HD := Lib.hid (And.intro hdg hve)
  clear n1 n2 hb2 b1 hdg hve
  go_wp2_with (refine wpList_store_mid rfl 33 _ _ rfl w.heap.size 0 (i64s es).toArray rfl rfl HT.out HS.out HO.out ?_)
  go_loopw [3, 4] (fun v i wr => ∃ k : Nat, k ≤ 16 ∧ i = .int .i64 (k : Int) ∧ OwnBs (w.heap.size + 1) wr v (bytesD (es.take k)) ∧ NBlk wr w.heap.size es ∧ Below w.heap.size w wr) (fun _ i _ => 16 - (intOf i).toNat)
  case atStart => exact ⟨0, by omega, rfl, OwnBs.nil _ _, HN2.out.1, HN2.out.2⟩
  case round =>
    obtain ⟨k, hk, rfl, hown, hn, hbw⟩ := hrel
    have hsz := hn.lt
    by_cases hp : k < 16
    · have hke : k < es.length := by rw [HD.out.1.1]; exact hp
      obtain ⟨d, hd⟩ : ∃ d, es[k]? = some d := ⟨_, List.getElem?_eq_getElem hke⟩
      have hdb := HD.out.1.2 d (List.mem_of_getElem? hd)
      have g1 := hn.cell hd
      have HTK := Lib.hid (bytesD_take es k d hd)
      have hlen : (bytesD (es.take k)).length ≤ 32 := by rw [bytesD_len, List.length_take]; omega
      obtain ⟨c1, hc1⟩ : ∃ c, lowB d = c := ⟨_, rfl⟩
      obtain ⟨c2, hc2⟩ : ∃ c, highB d = c := ⟨_, rfl⟩
      have m1 := lowB_eq d hdb
      have m2 := highB_eq d hdb
      have t1 : Int.tmod d 256 = d % 256 := Int.tmod_eq_emod_of_nonneg hdb.1
      rw [hc1, hc2] at HTK
      rw [hc1] at m1
      rw [hc2] at m2
      have u1 : IntKind.u8.wrap (c1.toNat : Int) = (c1.toNat : Int) := by have := c1.toNat_lt; rw [IntKind.wrap_u8]; omega
      have u2 : IntKind.u8.wrap (c2.toNat : Int) = (c2.toNat : Int) := by have := c2.toNat_lt; rw [IntKind.wrap_u8]; omega
      have e1 : IntKind.i64.wrap ((k : Int) + 1) = (k : Int) + 1 := IntWalk.i64_in _ (by omega)
      have hbk : decide ((k : Int) < 16) = true := by simp; omega
      have hk0 : (0 : Int) ≤ (k : Int) := Int.natCast_nonneg _
      have hk16 : (k : Int) < 16 := by omega
      have t2 : Int.tdiv d 256 = d / 256 := Int.tdiv_eq_ediv_of_nonneg hdb.1
      have u3 : IntKind.i64.wrap (c2.toNat : Int) = (c2.toNat : Int) := by have := c2.toNat_lt; exact IntWalk.i64_in _ (by omega)
      have hneo : ∀ vv, OwnBs (w.heap.size + 1) wr vv (bytesD (es.take k)) → some w.heap.size ≠ vv.ownBlock := fun vv ho h => by have := ho.lt _ h.symm; omega
      have HNE := Lib.hid hneo
      clear hneo
      have HDK := Lib.hid hd
      have HNN := Lib.hid hn
      have HBW := Lib.hid hbw
      clear hn hbw hke hd hc1 hc2
      go_wp2_with fail
      try rw [hbk]
      go_region_held3 (fun w' => w'.cell? ⟨w.heap.size, k, none⟩ = some (.int .i64 d)) (first | go_keep | exact g1 | exact NBlk.cell (show NBlk w2 w.heap.size es from (hgrow'.block w.heap.size (by simp; omega) (HNE.out _ hown)).trans (HNN.out.alloc _)) HDK.out)
        ((refine step_append_lit (by rfl) _ _ (by rfl) (w.heap.size + 1) _ _ (by rfl) (by first | exact World.ownsRow.alloc hown _ | exact (World.ownsRow.alloc hown _).drew | exact ((World.ownsRow.alloc hown _).drew).drew) ⟨wr.heap.size, 0, none⟩
            [c1, c2] 2 2 (by rfl) (rb_const wr _ _ rfl (0, 0)) (by rfl) (by omega) (by omega) (by simp; omega) ?_; intro v' w2 hown' hgrow'))
      rw [← HTK.out] at hown'
      have hn3 : NBlk w2 w.heap.size es := (hgrow'.block w.heap.size (by simp; omega) (HNE.out _ hown)).trans (HNN.out.alloc _)
      have hb3 : Below w.heap.size w w2 := Below.grown (by first | exact HBW.out.alloc (Nat.le_of_lt hsz) _ | exact (HBW.out.alloc (Nat.le_of_lt hsz) _).drew) hgrow' (by simp; omega) (fun k hk => by have := (hown.lt k hk).1; omega)
      have HE := Lib.hid (And.intro hown' (And.intro hn3 hb3))
      clear hown hown' hgrow' hn3 hb3 g1
      go_wp2_with fail
      exact ⟨⟨k + 1, by omega, by go_num, HE.out⟩, by simp [intOf]; omega⟩
    · obtain rfl : k = 16 := by omega
      have htk : es.take 16 = es := List.take_of_length_le (by rw [HD.out.1.1]; omega)
      rw [htk] at hown
      obtain ⟨A, n, cap, rfl, hrb, hnn⟩ := hown.form
      have hstr := run_str_rb wr A n cap _ hrb hnn
      have hres : bytesD es = leB 32 (r % P) := by
        rw [bytesD_leB es HD.out.1.2, HD.out.1.1, HD.out.2]; rfl
      have HRS := Lib.hid hres
      have HBW := Lib.hid hbw
      clear hown hrb hnn hn hbw htk hres
      go_wp2_with fail
      go_ret
      exact ⟨ret_str HRS.out, HBW.out⟩
end Go.Proofs.Ytpdoegfmngibgaa
