/- Layer 4: the document's exponents, inverses. -/
import Derived.Test.YtpdoegfmngibgaaRfL
namespace Go.Proofs.Ytpdoegfmngibgaa
open Go.ChangeShapes Go.WideShapes Go.ChangeAt Go.RowKit Go.IntWalk
set_option linter.unusedVariables false

def ExS (w : World) (k : Nat) (W : World) : Prop := UBlk W w.heap.size (bitsF k) ∧ Below w.heap.size w W
set_option maxRecDepth 100000 in
set_option maxHeartbeats 8000000 in
theorem refExp_calls (count less : Nat) (hc : count ≤ 255) (hc8 : 8 ≤ count) (hls : less < 255) (w : World) :
    Calls Try.prog 43 #[.int .i64 (count : Int), .int .i64 ((less + 1 : Nat) : Int)] w fun e w' => e = .returned (.string ⟨(onesF count less).toArray⟩) ∧ Below w.heap.size w w' := by
  have hs0 : ExS w 0 (w.alloc (.cells #[.int .u8 0, .int .u8 0, .int .u8 0, .int .u8 0, .int .u8 0, .int .u8 0, .int .u8 0, .int .u8 0, .int .u8 0, .int .u8 0, .int .u8 0, .int .u8 0, .int .u8 0, .int .u8 0, .int .u8 0, .int .u8 0, .int .u8 0, .int .u8 0, .int .u8 0, .int .u8 0, .int .u8 0, .int .u8 0, .int .u8 0, .int .u8 0, .int .u8 0, .int .u8 0, .int .u8 0, .int .u8 0, .int .u8 0, .int .u8 0, .int .u8 0, .int .u8 0] 22)) := ⟨heap_alloc_new w _, (Below.refl _ _).alloc (Nat.le_refl _) _⟩
  have HS0 := Lib.hid hs0
  clear hs0
  go_enter Try.func43, Try.ntmps43
  go_wp2_with fail
  go_loopw [6] (fun i wr => ∃ k : Nat, k ≤ count ∧ i = .int .i64 (k : Int) ∧ ExS w k wr) (fun i _ => count - (intOf i).toNat)
  case atStart => exact ⟨0, by omega, rfl, HS0.out⟩
  case round =>
    obtain ⟨k, hk, rfl, hu, hbw⟩ := hrel
    by_cases hp : k < count
    · have hb := (bits_step ⟨k, by omega⟩).1
      have hset := (bits_step ⟨k, by omega⟩).2
      simp only at hb hset
      obtain ⟨c, hcc, hcv⟩ := Option.map_eq_some_iff.1 hb
      have hlen := (List.getElem?_eq_some_iff.1 hcc).1
      have g1 := hu.cell hlen
      rw [(List.getElem?_eq_some_iff.1 hcc).2, hcv] at g1
      have g2 := hu.frozen (k / 8)
      have hu2 := hu.set_ (k / 8) (UInt8.ofNat (2 ^ (k % 8 + 1) - 1))
      rw [hset] at hu2
      have hlt2 : 2 ^ (k % 8 + 1) ≤ 2 ^ 8 := Nat.pow_le_pow_right (by decide) (by omega)
      have ex : ((UInt8.ofNat (2 ^ (k % 8 + 1) - 1)).toNat : Int) = ((2 ^ (k % 8 + 1) - 1 : Nat) : Int) := by simp; omega
      rw [ex] at hu2
      obtain ⟨j, hj⟩ : ∃ j, k / 8 = j := ⟨_, rfl⟩
      have hk8 : (k : Int) / 8 = (j : Int) := by omega
      rw [hj] at g1 g2 hu2
      have hj32 : j < 32 := by omega
      have ho := or_val k
      obtain ⟨t, ht⟩ : ∃ t, k % 8 = t := ⟨_, rfl⟩
      rw [ht] at g1 hu2 ho
      have hk8t : Int.tmod (k : Int) 8 = (t : Int) := by rw [Int.tmod_eq_emod_of_nonneg (by omega)]; omega
      have hb2 : Below w.heap.size w (wr.setCell ⟨w.heap.size, j, none⟩ (.int .u8 ((2 ^ (t + 1) - 1 : Nat) : Int))) := hbw.setCell (Nat.le_refl _) _
      have HN := Lib.hid (And.intro hu2 hb2)
      have HO := Lib.hid ho
      have e1 : IntKind.i64.wrap ((k : Int) + 1) = (k : Int) + 1 := IntWalk.i64_in _ (by omega)
      have hkc : decide ((k : Int) < (count : Int)) = true := by simp; omega
      have ht8 : t < 8 := by omega
      clear hb hset hcc hcv hlen hu hbw hu2 hb2 ex ho hj ht
      go_wp2_with fail
      exact ⟨⟨k + 1, by omega, by go_num, by rw [HO.out]; exact HN.out⟩, by simp [intOf]; omega⟩
    · obtain rfl : k = count := by omega
      obtain ⟨hset, hget⟩ := ones_set k less hc8 (by omega)
      have hlen := (List.getElem?_eq_some_iff.1 hget).1
      have g1 := hu.cell hlen
      rw [(List.getElem?_eq_some_iff.1 hget).2] at g1
      have g2 := hu.frozen 0
      have hu2 := hu.set_ 0 (UInt8.ofNat (255 - less))
      rw [hset] at hu2
      obtain ⟨x, hx⟩ : ∃ x, ((UInt8.ofNat (255 - less)).toNat : Int) = x := ⟨_, rfl⟩
      have hsub : IntKind.u8.wrap (255 - (less : Int)) = x := by rw [← hx, IntKind.wrap_u8]; simp; omega
      rw [hx] at hu2
      obtain ⟨m, hm⟩ : ∃ m : Nat, less + 1 = m := ⟨_, rfl⟩
      have e2 : (m : Int) - 1 = (less : Int) := by omega
      have e3 : IntKind.i64.wrap (less : Int) = (less : Int) := IntWalk.i64_in _ (by omega)
      have e4 : IntKind.u8.wrap (less : Int) = (less : Int) := by rw [IntKind.wrap_u8]; omega
      have hol : (onesF k less).length = 32 := onesF_len _ _
      have hstr := run_str_rb _ (some ⟨w.heap.size, 0, none⟩) 32 32 (onesF k less) hu2.rb hol.symm
      have HB := Lib.hid (hbw.setCell (p := ⟨w.heap.size, 0, none⟩) (Nat.le_refl _) (.int .u8 x))
      have hkk : decide ((k : Int) < (k : Int)) = false := by simp
      clear hu hbw hset hget hlen hu2 hx hol
      rw [hm]
      go_wp2_with fail
      go_ret
      exact ⟨rfl, HB.out⟩
theorem exp_255 (w : World) : Calls Try.prog 43 #[.int .i64 255, .int .i64 21] w fun e w' => e = .returned (.string ⟨(onesF 255 20).toArray⟩) ∧ Below w.heap.size w w' := refExp_calls 255 20 (by decide) (by decide) (by decide) w
theorem exp_252 (w : World) : Calls Try.prog 43 #[.int .i64 252, .int .i64 2] w fun e w' => e = .returned (.string ⟨(onesF 252 1).toArray⟩) ∧ Below w.heap.size w w' := refExp_calls 252 1 (by decide) (by decide) (by decide) w
theorem exp_253 (w : World) : Calls Try.prog 43 #[.int .i64 253, .int .i64 5] w fun e w' => e = .returned (.string ⟨(onesF 253 4).toArray⟩) ∧ Below w.heap.size w w' := refExp_calls 253 4 (by decide) (by decide) (by decide) w
section
variable {P : Program} {ops : Array Oper} {w0 : World} {Lq : Gh → Act → Prop} {o : Oper} {rest : List Oper} {kds : List Kd} {s : Gh} {a : Act}
theorem lg_num {g : Nat} {ds : List Int} (x : Operand) (hN : NBlk w0 g ds) (hl : ds.length = 16) (hb : g < w0.heap.size) (ho : o.op = .load 33 x) (hw : Region.wanted o (yielded ops a.tmps) = true) (hx : a.eval x = .pointer (some ⟨g, 0, none⟩))
    (h2 : wpG Try.prog ops w0 Lq rest kds s (a.put o.dst (A16 ds))) : wpG Try.prog ops w0 Lq (o :: rest) (.rel (· = A16 ds) :: kds) s a :=
  lg_load 33 x ho g 0 _ _ hN.rng hb Try.underlying33 rfl (size16' ds hl) hw hx h2
theorem lg_callx (x : Value) (f : FuncId) (args : Array Value) (hw : Region.wanted o (yielded ops a.tmps) = true) (he : ∀ W, (execOp a.eval o).run P W = .ok (.enter f args) W)
    (hc : ∀ W, Calls P f args W (fun e W' => e = .returned x ∧ Below W.heap.size W W')) (h2 : wpG P ops w0 Lq rest kds s (a.put o.dst x)) : wpG P ops w0 Lq (o :: rest) (.rel (· = x) :: kds) s a :=
  lg_call _ f args hw he (fun W => (hc W).mono fun e W' ⟨h1, h2⟩ => ⟨x, h1, rfl, h2⟩) (fun v hv => by subst hv; exact h2)
theorem lg_call_num (r : Nat) (f : FuncId) (args : Array Value) (hw : Region.wanted o (yielded ops a.tmps) = true) (he : ∀ W, (execOp a.eval o).run P W = .ok (.enter f args) W)
    (hc : ∀ W, Calls P f args W (NPost r W)) (h2 : ∀ v, IsNum v r → wpG P ops w0 Lq rest kds s (a.put o.dst v)) : wpG P ops w0 Lq (o :: rest) (.rel (fun v => IsNum v r) :: kds) s a :=
  lg_call _ f args hw he hc h2
end
set_option maxRecDepth 100000 in
set_option maxHeartbeats 4000000 in
theorem refInv_num (v : Value) (r : Nat) (hv : IsNum v r) (w : World) : Calls Try.prog 31 #[v] w (NPost (r ^ (P - 2)) w) := by
  have HV := Lib.hid hv
  obtain ⟨av, rfl, hok, hval⟩ := hv
  unfold A16
  have h0 : NBlk ((w.alloc (.cells (i64s av).toArray 33)).alloc (.cells #[.int .i64 0, .int .i64 0, .int .i64 0, .int .i64 0, .int .i64 0, .int .i64 0, .int .i64 0, .int .i64 0, .int .i64 0, .int .i64 0, .int .i64 0, .int .i64 0, .int .i64 0, .int .i64 0, .int .i64 0, .int .i64 0] 33)) w.heap.size av := (NBlk.new _).alloc _
  have hz0 : NBlk ((w.alloc (.cells (i64s av).toArray 33)).alloc (.cells #[.int .i64 0, .int .i64 0, .int .i64 0, .int .i64 0, .int .i64 0, .int .i64 0, .int .i64 0, .int .i64 0, .int .i64 0, .int .i64 0, .int .i64 0, .int .i64 0, .int .i64 0, .int .i64 0, .int .i64 0, .int .i64 0] 33)) (w.heap.size + 1) Z16 := by
    have := heap_alloc_new (w.alloc (.cells (i64s av).toArray 33)) (.cells #[.int .i64 0, .int .i64 0, .int .i64 0, .int .i64 0, .int .i64 0, .int .i64 0, .int .i64 0, .int .i64 0, .int .i64 0, .int .i64 0, .int .i64 0, .int .i64 0, .int .i64 0, .int .i64 0, .int .i64 0, .int .i64 0] 33)
    rw [show (w.alloc (.cells (i64s av).toArray 33)).heap.size = w.heap.size + 1 by simp] at this
    exact this
  have hb0 : Below w.heap.size w ((w.alloc (.cells (i64s av).toArray 33)).alloc (.cells #[.int .i64 0, .int .i64 0, .int .i64 0, .int .i64 0, .int .i64 0, .int .i64 0, .int .i64 0, .int .i64 0, .int .i64 0, .int .i64 0, .int .i64 0, .int .i64 0, .int .i64 0, .int .i64 0, .int .i64 0, .int .i64 0] 33)) := ((Below.refl _ _).alloc (Nat.le_refl _) _).alloc (by simp) _
  obtain ⟨cs, hcs⟩ : ∃ cs, i64s av = cs := ⟨_, rfl⟩
  rw [hcs] at h0 hz0 hb0 ⊢
  have H0 := Lib.hid (And.intro h0 (And.intro hz0 (And.intro hb0 hok.1)))
  clear h0 hz0 hb0 hok hval hcs
  go_enter Try.func31, Try.ntmps31
  go_wp2_with fail
  obtain ⟨h0, hz0, hb0, hl⟩ := H0.out
  generalize (w.alloc (.cells cs.toArray 33)).alloc (.cells #[.int .i64 0, .int .i64 0, .int .i64 0, .int .i64 0, .int .i64 0, .int .i64 0, .int .i64 0, .int .i64 0, .int .i64 0, .int .i64 0, .int .i64 0, .int .i64 0, .int .i64 0, .int .i64 0, .int .i64 0, .int .i64 0] 33) = W1 at *
  have hlt := h0.lt
  have hpe : leN (onesF 255 20) = P - 2 := by rw [leN_ones 255 20 (by decide)]; decide +kernel
  have hpow : ∀ W, Calls Try.prog 29 #[A16 av, .string ⟨(onesF 255 20).toArray⟩] W (NPost (r ^ (P - 2)) W) := by
    rw [← hpe]; exact fun W => refPow_calls _ _ HV.out _ (onesF_len _ _) W
  apply wp_region_g 3 (by kernel_rfl) (by kernel_rfl)
  simp only [List.take_succ_cons, List.take_zero, List.drop_succ_cons, List.drop_zero]
  apply lg_num (.tmp 1) h0 hl hlt rfl rfl rfl
  simp only [Act.put, List.setIfInBounds_toArray, List.set_cons_succ, List.set_cons_zero]
  apply lg_callx (.string ⟨(onesF 255 20).toArray⟩) 43 #[.int .i64 255, .int .i64 21] rfl (by intro W; go_simp) exp_255
  simp only [Act.put, List.setIfInBounds_toArray, List.set_cons_succ, List.set_cons_zero]
  apply lg_call_num (r ^ (P - 2)) 29 #[A16 av, .string ⟨(onesF 255 20).toArray⟩] rfl (by intro W; go_simp) hpow
  intro v5 hv5
  simp only [Act.put, List.setIfInBounds_toArray, List.set_cons_succ, List.set_cons_zero]
  refine lg_nil ?_
  intro w2 hC2
  obtain ⟨qs, rfl, okq, valq⟩ := hv5
  have hz2 := hz0.later hC2.1
  have hbf := below_cells (show w.heap.size ≤ w.heap.size + 1 by omega) (i64s qs) 0 _ (hb0.then_ hC2.1)
  have HLD := Lib.hid (ld16 (hz2.setAll (ms := qs) (by rw [okq.1]; rfl)) okq.1)
  have HBF := Lib.hid hbf
  have HNQ : Hid (IsNum (A16 qs) (r ^ (P - 2))) := Lib.hid ⟨qs, rfl, okq, valq⟩
  refine wpList_store_mid rfl 33 _ _ rfl (w.heap.size + 1) 0 (i64s qs).toArray rfl rfl (hz2.there (by simp [i64s, okq.1, Z16])) (size16a qs okq.1) (one16 qs) ?_
  simp only [Act.put]
  clear hz2 hbf okq valq hpow hpe h0 hz0 hb0 hl hlt hC2 H0
  go_wp2_with fail
  exact bodyPost_ret (v := .agg (i64s qs).toArray) (results_cell rfl _ _ _ _ rfl HLD.out) rfl ⟨_, rfl, HNQ.out, HBF.out⟩
end Go.Proofs.Ytpdoegfmngibgaa
