/- Layer 4: the laws' num and is. -/
import Derived.Test.YtpdoegfmngibgaaRfG
namespace Go.Proofs.Ytpdoegfmngibgaa
open Go.ChangeShapes Go.WideShapes Go.ChangeAt Go.RowKit Go.IntWalk
set_option linter.unusedVariables false

theorem UBlk.rb {w : World} {g : Nat} {bs : List UInt8} (h : UBlk w g bs) : RB w (some ⟨g, 0, none⟩) bs := by
  intro k hk
  refine ⟨g, 0, rfl, (Array.getElem?_eq_some_iff.1 h).1, ?_⟩
  rw [Nat.zero_add, h.cell hk]
  simp [List.getD_eq_getElem?_getD, hk]
theorem UBlk.new {w : World} (bs : List UInt8) : UBlk (w.alloc (.cells (u8s bs).toArray 22)) w.heap.size bs := heap_alloc_new w _
theorem UBlk.alloc {w : World} {g : Nat} {bs : List UInt8} (h : UBlk w g bs) (o : Obj) : UBlk (w.alloc o) g bs := (heap_alloc_old w _ (Array.getElem?_eq_some_iff.1 h).1).trans h
theorem UBlk.setFar {W : World} {g g2 : Nat} {bs : List UInt8} (h : UBlk W g bs) (hne : g2 ≠ g) (vs : List Value) : UBlk (W.setCells g2 0 vs) g bs := (setCells_other hne vs 0 W).trans h
theorem UBlk.thereL {w : World} {g n : Nat} {bs : List UInt8} (h : UBlk w g bs) (hn : n = bs.length) : w.there g 0 n := by
  intro j hj
  have hj2 : j < bs.length := by omega
  rw [Nat.zero_add]
  exact ⟨by rw [h.cell hj2]; rfl, h.frozen j⟩
def NPost (r : Nat) (w : World) (e : Ending) (w' : World) : Prop := ∃ v, e = .returned v ∧ IsNum v r ∧ Below w.heap.size w w'
set_option maxHeartbeats 4000000 in
theorem num_calls (bs : List UInt8) (hl : bs.length = 32) (w : World) :
    Calls Try.prog 15 #[A32 bs] w (NPost (leN bs) w) := by
  unfold A32
  have h0 : UBlk ((w.alloc (.cells (u8s bs).toArray 22)).alloc (.cells (i64s Z16).toArray 33)) w.heap.size bs := (UBlk.new bs).alloc _
  have hz0 : NBlk ((w.alloc (.cells (u8s bs).toArray 22)).alloc (.cells (i64s Z16).toArray 33)) (w.heap.size + 1) Z16 := by
    have := NBlk.new (w := w.alloc (.cells (u8s bs).toArray 22)) Z16
    rw [show (w.alloc (.cells (u8s bs).toArray 22)).heap.size = w.heap.size + 1 by simp] at this
    exact this
  have hst := run_str_rb _ (some ⟨w.heap.size, 0, none⟩) 32 32 bs h0.rb hl.symm
  have hof : ∀ W, Calls Try.prog 36 #[.string ⟨bs.toArray⟩] W fun e w' => e = .returned (A16 (digD bs 16)) ∧ Below W.heap.size W w' := fun W => refOf_calls bs hl W
  have hnum : IsNum (A16 (digD bs 16)) (leN bs) := ⟨digD bs 16, rfl, ⟨digD_len _ _, fun x hx => by have := digD_rng bs 16 x hx; omega⟩, by rw [digD_val bs hl]; rfl⟩
  obtain ⟨cs, hcs⟩ : ∃ cs, u8s bs = cs := ⟨_, rfl⟩
  rw [hcs] at hz0 hst ⊢
  obtain ⟨fs, hfs⟩ : ∃ fs, digD bs 16 = fs := ⟨_, rfl⟩
  have hfl : fs.length = 16 := by rw [← hfs]; exact digD_len _ _
  rw [hfs] at hof hnum
  have H0 := Lib.hid (And.intro hz0 (And.intro hof (And.intro hnum hfl)))
  have hst2 : (convert 45 9 (.slice (some ⟨w.heap.size, 0, none⟩) 32 32)).run Try.prog ((w.alloc (.cells cs.toArray 22)).alloc (.cells #[.int .i64 0, .int .i64 0, .int .i64 0, .int .i64 0, .int .i64 0, .int .i64 0, .int .i64 0, .int .i64 0, .int .i64 0, .int .i64 0, .int .i64 0, .int .i64 0, .int .i64 0, .int .i64 0, .int .i64 0, .int .i64 0] 33)) = .ok (.string ⟨bs.toArray⟩) _ := hst
  clear h0 hz0 hof hnum hfl hcs hfs hst
  go_enter Try.func15, Try.ntmps15
  go_wp2_with fail
  refine (H0.out.2.1 _).mono ?_
  rintro e w1 ⟨rfl, b1⟩
  have hz1 := H0.out.1.later b1
  have hbf := below_cells (show w.heap.size ≤ w.heap.size + 1 by omega) (i64s fs) 0 _ (below2 b1)
  have HT := Lib.hid (hz1.there (n := (i64s fs).toArray.size) (by simp [i64s, H0.out.2.2.2, Z16]))
  have HS := Lib.hid (size16a _ H0.out.2.2.2)
  have HO := Lib.hid (one16 fs)
  have HLD := Lib.hid (ld16 (hz1.setAll (ms := fs) (by rw [H0.out.2.2.2]; rfl)) H0.out.2.2.2)
  have HBF := Lib.hid hbf
  clear hz1 hbf b1 hst2
  go_wp2_with (refine wpList_store_mid rfl 33 _ _ rfl (w.heap.size + 1) 0 (i64s fs).toArray rfl rfl HT.out HS.out HO.out ?_)
  exact bodyPost_ret (v := .agg (i64s fs).toArray) (results_cell rfl _ _ _ _ rfl HLD.out) rfl ⟨_, rfl, H0.out.2.2.1, HBF.out⟩
section
variable {P : Program} {ops : Array Oper} {W0 : World} {Q : Act → Prop} {o : Oper} {rest : List Oper} {Rs : List (Value → Prop)} {a : Act}
theorem ls_run (x : Value) (hw : Region.wanted o (yielded ops a.tmps) = true) (h1 : ∀ W, Below W0.heap.size W0 W → (execOp a.eval o).run P W = .ok (.value x) W) (h2 : wpLs P ops (fun w' => Below W0.heap.size W0 w') Q rest Rs (a.put o.dst x)) :
    wpLs P ops (fun w' => Below W0.heap.size W0 w') Q (o :: rest) ((· = x) :: Rs) a :=
  ls_exact hw (fun W hW => by unfold lsAt; rw [h1 W hW]; exact ⟨rfl, rfl⟩) h2
theorem ls_num {g : Nat} {ds : List Int} (x : Operand) (hN : NBlk W0 g ds) (hl : ds.length = 16) (hb : g < W0.heap.size) (ho : o.op = .load 33 x) (hw : Region.wanted o (yielded ops a.tmps) = true) (hx : a.eval x = .pointer (some ⟨g, 0, none⟩))
    (h2 : wpLs Try.prog ops (fun w' => Below W0.heap.size W0 w') Q rest Rs (a.put o.dst (A16 ds))) : wpLs Try.prog ops (fun w' => Below W0.heap.size W0 w') Q (o :: rest) ((· = A16 ds) :: Rs) a :=
  ls_load 33 x ho g 0 _ _ hN.rng hb Try.underlying33 rfl (size16' ds hl) hw hx h2
theorem ls_call_num (r : Nat) (f : FuncId) (args : Array Value) (hw : Region.wanted o (yielded ops a.tmps) = true) (he : ∀ W, (execOp a.eval o).run P W = .ok (.enter f args) W)
    (hc : ∀ W, Calls P f args W (NPost r W)) (h2 : ∀ v, IsNum v r → wpLs P ops (fun w' => Below W0.heap.size W0 w') Q rest Rs (a.put o.dst v)) :
    wpLs P ops (fun w' => Below W0.heap.size W0 w') Q (o :: rest) ((fun v => IsNum v r) :: Rs) a :=
  ls_call _ f args hw he hc h2
end
set_option maxRecDepth 100000 in
set_option maxHeartbeats 4000000 in
theorem isx_calls (u v : Value) (r s : Nat) (hu : IsEl u r) (hv : IsNum v s) (w : World) :
    Calls Try.prog 14 #[u, v] w fun e w' => e = .returned (.bool (decide (r % P = s % P))) ∧ Below w.heap.size w w' := by
  have HV := Lib.hid hv
  obtain ⟨ds, rfl, hok, _⟩ := hv
  obtain ⟨m0, m1, m2, m3, m4, rfl, hok2, hval2⟩ := hu.form
  have HU := Lib.hid hu
  unfold A16
  have HOK := Lib.hid hok.1
  clear hok hok2 hval2 hu
  obtain ⟨cs, hcs⟩ : ∃ cs, i64s ds = cs := ⟨_, rfl⟩
  rw [hcs]
  have HCS := Lib.hid hcs
  clear hcs
  go_enter Try.func14, Try.ntmps14
  go_wp2_with fail
  refine (bytes_calls _ _ HU.out _).mono ?_
  rintro e w1 ⟨rfl, b1⟩
  have n1 : NBlk w1 (w.heap.size + 1) ds := by
    have h := b1.block (w.heap.size + 1) (by simp)
    have h2 := heap_alloc_new (w.alloc (.cells #[.int .u64 (m0 : Int), .int .u64 (m1 : Int), .int .u64 (m2 : Int), .int .u64 (m3 : Int), .int .u64 (m4 : Int)] 27)) (.cells cs.toArray 33)
    rw [show (w.alloc (.cells #[.int .u64 (m0 : Int), .int .u64 (m1 : Int), .int .u64 (m2 : Int), .int .u64 (m3 : Int), .int .u64 (m4 : Int)] 27)).heap.size = w.heap.size + 1 by simp] at h2
    unfold NBlk; rw [h, h2, HCS.out]
  have bw1 : Below w.heap.size w w1 := below2 b1
  have lt1 := n1.lt
  have hl32 : (leB 32 (r % P)).length = 32 := leB_len _ _
  obtain ⟨bs, hbs⟩ : ∃ bs, leB 32 (r % P) = bs := ⟨_, rfl⟩
  rw [hbs] at hl32 ⊢
  have hu0 := UBlk.new0 w1
  have u1 := hu0.setAll (cs := bs) (by rw [hl32]; rfl)
  have n2 := (n1.alloc (.cells #[.int .u8 0, .int .u8 0, .int .u8 0, .int .u8 0, .int .u8 0, .int .u8 0, .int .u8 0, .int .u8 0, .int .u8 0, .int .u8 0, .int .u8 0, .int .u8 0, .int .u8 0, .int .u8 0, .int .u8 0, .int .u8 0, .int .u8 0, .int .u8 0, .int .u8 0, .int .u8 0, .int .u8 0, .int .u8 0, .int .u8 0, .int .u8 0, .int .u8 0, .int .u8 0, .int .u8 0, .int .u8 0, .int .u8 0, .int .u8 0, .int .u8 0, .int .u8 0] 22)).setFar (g2 := w1.heap.size) (by omega) (u8s bs)
  have bw2 := below_cells bw1.size (u8s bs) 0 _ (bw1.alloc bw1.size (.cells #[.int .u8 0, .int .u8 0, .int .u8 0, .int .u8 0, .int .u8 0, .int .u8 0, .int .u8 0, .int .u8 0, .int .u8 0, .int .u8 0, .int .u8 0, .int .u8 0, .int .u8 0, .int .u8 0, .int .u8 0, .int .u8 0, .int .u8 0, .int .u8 0, .int .u8 0, .int .u8 0, .int .u8 0, .int .u8 0, .int .u8 0, .int .u8 0, .int .u8 0, .int .u8 0, .int .u8 0, .int .u8 0, .int .u8 0, .int .u8 0, .int .u8 0, .int .u8 0] 22))
  have HT := Lib.hid (hu0.there (n := (u8s bs).toArray.size) (by simp [u8s, hl32]))
  have HS := Lib.hid (show (Try.prog.info? 22).map (·.size) = some (u8s bs).toArray.size by simpa using size32' bs hl32)
  have HO := Lib.hid (one8 bs)
  have HA := Lib.hid (And.intro u1 (And.intro n2 (And.intro bw2 (And.intro hl32 hbs))))
  clear b1 n1 bw1 hl32 hbs hu0 u1 n2 bw2
  go_wp2_with (refine wpList_store_mid rfl 22 _ _ rfl w1.heap.size 0 (u8s bs).toArray rfl rfl HT.out HS.out HO.out ?_)
  go_frame
  obtain ⟨u1, n2, bw2, hl32, hbs⟩ := HA.out
  generalize (w1.alloc (.cells #[.int .u8 0, .int .u8 0, .int .u8 0, .int .u8 0, .int .u8 0, .int .u8 0, .int .u8 0, .int .u8 0, .int .u8 0, .int .u8 0, .int .u8 0, .int .u8 0, .int .u8 0, .int .u8 0, .int .u8 0, .int .u8 0, .int .u8 0, .int .u8 0, .int .u8 0, .int .u8 0, .int .u8 0, .int .u8 0, .int .u8 0, .int .u8 0, .int .u8 0, .int .u8 0, .int .u8 0, .int .u8 0, .int .u8 0, .int .u8 0, .int .u8 0, .int .u8 0] 22)).setCells w1.heap.size 0 (u8s bs) = W2 at *
  generalize w1.heap.size = g at *
  have hgU : g < W2.heap.size := (Array.getElem?_eq_some_iff.1 u1).1
  have hgN := n2.lt
  have hcv : ∀ W, Below W2.heap.size W2 W → (convert 45 9 (.slice (some ⟨g, 0, none⟩) 32 32)).run Try.prog W = .ok (.string ⟨bs.toArray⟩) W :=
    fun W hW => run_str_rb W (some ⟨g, 0, none⟩) 32 32 bs (u1.rb.below hW) hl32.symm
  have heq : ((⟨bs.toArray⟩ : ByteArray).toList == (⟨(leB 32 (s % P)).toArray⟩ : ByteArray).toList) = decide (r % P = s % P) := by
    rw [← hbs, ← leB_eq (mod_lt_P r) (mod_lt_P s)]
    simp [ByteArray.toList_eq]
  apply wp_region_ls (by kernel_rfl) (by kernel_rfl)
  apply ls_pure (.slice (some ⟨g, 0, none⟩) 32 32) rfl (by intro W; go_simp)
  simp only [Act.put, List.setIfInBounds_toArray, List.set_cons_succ, List.set_cons_zero]
  apply ls_run (.string ⟨bs.toArray⟩) rfl (by intro W hW; have := hcv W hW; go_simp)
  simp only [Act.put, List.setIfInBounds_toArray, List.set_cons_succ, List.set_cons_zero]
  apply ls_num (.tmp 3) n2 HOK.out hgN rfl rfl rfl
  simp only [Act.put, List.setIfInBounds_toArray, List.set_cons_succ, List.set_cons_zero]
  apply ls_callx (.string ⟨(leB 32 (s % P)).toArray⟩) 35 #[A16 ds] rfl (by intro W; go_simp) (fun W => refBytes_calls _ _ HV.out W)
  simp only [Act.put, List.setIfInBounds_toArray, List.set_cons_succ, List.set_cons_zero]
  apply ls_pure (.bool (decide (r % P = s % P))) rfl (by intro W; rw [← heq]; go_simp)
  simp only [Act.put, List.setIfInBounds_toArray, List.set_cons_succ, List.set_cons_zero]
  apply ls_assign (.bool (decide (r % P = s % P))) (.tmp 12) rfl rfl rfl
  simp only [Act.put, List.setIfInBounds_toArray, List.set_cons_succ, List.set_cons_zero]
  refine ls_nil (Rs := []) ?_
  intro w4 b4
  have hfin := bw2.then_ b4
  clear bw2 b4 u1 n2 hgU hgN hcv heq
  go_wp2_with fail
  go_ret
  exact ⟨rfl, hfin⟩
end Go.Proofs.Ytpdoegfmngibgaa
