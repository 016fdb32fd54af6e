/- Layer 7: the document's numbers of texts, and its base, walked. -/
import Derived.Test.YtkfdclnaaphdgaaDoorDmC
import Derived.Test.YtkfdclnaaphdgaaDoorSmC
import Derived.Test.YtkfdclnaaphdgaaDoorCvF
import Derived.Test.YtkfdclnaaphdgaaDoorCvK
import Derived.Test.YtkfdclnaaphdgaaDoorOwn
import Derived.Test.YtkfdclnaaphdgaaDoorLit
import Derived.Test.YtkfdclnaaphdgaaDoorCvO
namespace Go.Proofs.YtkfdclnaaphdgaaDoor
open Go.ChangeShapes Go.WideShapes Go.ChangeAt Go.RowKit Go.IntWalk
set_option linter.unusedVariables false

set_option maxRecDepth 100000 in
set_option maxHeartbeats 4000000 in
theorem refNumber_calls (bs : List UInt8) (hb : bs.length < 2 ^ 30) (w : World) :
    Calls Tryd.prog 26 #[.string ⟨bs.toArray⟩] w fun e w' => e = .returned (.string ⟨(Sc.leB 32 (Sc.leN (Dh.digest bs) % Sc.LO)).toArray⟩) ∧ Below w.heap.size w w' := by
  obtain ⟨cap, W1, hcv, hb1, hbc, _⟩ := bytes_of w bs
  go_enter Tryd.func26, Tryd.ntmps26
  go_wp2_with fail
  refine (Dh.refOf_calls bs hb _ bs.length cap (Lib.hid rfl) W1 hbc.rb).mono ?_
  rintro e W2 ⟨rfl, hb2⟩
  have hw2 := hb1.then_ hb2
  clear hb1 hb2 hbc hcv
  go_wp2_with fail
  refine (Sc.refRest_calls (Dh.digest bs) (by rw [Dh.digest_len]; decide) W2).mono ?_
  rintro e W3 ⟨rfl, hb3⟩
  have hw3 := Lib.hid (hw2.then_ hb3)
  clear hb3 hw2
  go_wp2_with fail
  go_ret
  exact ⟨rfl, hw3.out⟩
def BsS (w : World) (k : Nat) (v : Value) (wr : World) : Prop := OwnBs (w.heap.size + 1) wr v (88 :: List.replicate k 102) ∧ Blk wr w.heap.size 52 C64 ∧ Below w.heap.size w wr
def sLen : Value → Nat
  | .slice _ n _ => n
  | _ => 0
theorem BsS.len {w wr : World} {k : Nat} {v : Value} (h : BsS w k v wr) : sLen v = k + 1 := by
  obtain ⟨A, n, c, rfl, _, hn⟩ := h.1.form
  have := hn.out
  simp at this
  simpa [sLen] using this
theorem BsS.step {w wr w2 : World} {k : Nat} {v v2 : Value} (h : BsS w k v wr) (ho : OwnBs (w.heap.size + 1) w2 v2 (88 :: List.replicate k 102 ++ [102])) (hg : wr.grownBy w2 v.ownBlock) : BsS w (k + 1) v2 w2 := by
  refine ⟨?_, (hg.block w.heap.size h.2.1.lt (by intro e; have := (h.1.lt _ e.symm).1; omega)).trans h.2.1, h.2.2.grown hg h.2.2.size (fun j hj => by have := (h.1.lt j hj).1; omega)⟩
  have e : (88 :: List.replicate k 102 ++ [102] : List UInt8) = 88 :: List.replicate (k + 1) 102 := by
    rw [List.cons_append, ← List.replicate_succ']
  rwa [e] at ho
theorem byB_is : (88 :: List.replicate 31 102 : List UInt8) = byB := rfl
theorem encBase : encL baseP = byB := by decide +kernel
theorem base_ok : dOk byB = true ∧ decP byB = baseP := by
  have := dec_enc baseP
  rwa [encBase] at this
set_option maxRecDepth 100000 in
set_option maxHeartbeats 4000000 in
theorem refBaseP (w : World) : Calls Tryd.prog 23 #[] w (RPPost baseP w) := by
  go_enter Tryd.func23, Tryd.ntmps23
  go_upto_region 1 with fail
  refine wp_gen (fun W => Blk W w.heap.size 52 C64 ∧ Below w.heap.size w W) (alloc1 w _ _) ?_
  rintro W0 ⟨Bp, HB⟩
  have L0 := Bp.lt
  go_upto_region 2 with fail
  have hown : OwnBs (w.heap.size + 1) (W0.alloc (.cells #[.int .u8 88] 5)) (.slice (some ⟨W0.heap.size, 0, none⟩) 1 1) (88 :: List.replicate 0 102) :=
    OwnVs.of_blk (cs := [.int .u8 88]) (Blk.new W0 [.int .u8 88] 5) (by omega) rfl (by decide)
  have hbp : BsS w 0 (.slice (some ⟨W0.heap.size, 0, none⟩) 1 1) (W0.alloc (.cells #[.int .u8 88] 5)) := ⟨hown, Bp.alloc _, HB.alloc HB.size _⟩
  have H0 := Lib.hid hbp
  clear hown hbp Bp HB L0
  go_loopw [1] (fun v wr => ∃ k, k ≤ 31 ∧ BsS w k v wr) (fun v wr => 32 - sLen v)
  case atStart => exact ⟨0, by omega, H0.out⟩
  case round =>
    clear H0
    obtain ⟨k, hk, hp⟩ := hrel
    obtain ⟨hown, hbk, hbl⟩ := hp
    have HP : Hid (BsS w k _ wr) := Lib.hid ⟨hown, hbk, hbl⟩
    have hwr := hbl.size
    have hlk := hbk.lt
    obtain ⟨A, n, c, rfl, hrb, hn⟩ := hown.form
    have hnl : n = k + 1 := by have := hn.out; simpa using this
    clear hown hbk hbl
    by_cases h31 : k < 31
    · have hd : decide ((n : Int) < 32) = true := by simp; omega
      have HNL := Lib.hid hnl
      clear hrb hn hnl
      go_wp2_with (at_builtin; (refine wpList_append_lit rfl _ _ rfl _ _ _ rfl HP.out.1 [102] _ rfl 1 rfl rfl (by simp; omega) (by omega) ?_; intro v' w2 hown' hgrow'))
      have hq := HP.out.step hown' hgrow'
      have hl := hq.len
      exact ⟨⟨k + 1, by omega, hq⟩, by rw [hl]; have := HNL.out; simp only [sLen]; omega⟩
    · obtain rfl : k = 31 := by omega
      obtain rfl : n = 32 := by omega
      have hd : decide (((32 : Nat) : Int) < 32) = false := by simp
      clear hnl
      have hcv := run_str_rb wr A 32 c _ hrb hn
      have hdc := refDecode_calls byB rfl
      rw [byB_is] at hcv
      have HDC := Lib.hid hdc
      clear hdc hrb hn
      go_wp2_with fail
      clear hcv
      refine (HDC.out _).mono ?_
      rintro e W5 ⟨cc, rfl, hlc, hoc, hpc, bD⟩
      have hpb : RL cc baseP := by have := hpc base_ok.1; rwa [base_ok.2] at this
      have hb5 := HP.out.2.1.later bD
      have hw5 := HP.out.2.2.then_ bD
      clear hpc bD HP HDC
      obtain ⟨T0, HL, N0⟩ := letS (W := W5) (T := 52) (z := C64) (cs := cc) (by rw [hlc]; rfl)
      have hS : (Tryd.prog.info? 52).map (·.size) = some cc.toArray.size := by rw [List.size_toArray, hlc]; exact size64n
      have L5 := hb5.lt
      go_upto_region 5 with (refine wpList_store_mid rfl 52 _ _ rfl W5.heap.size 0 cc.toArray rfl rfl T0 hS hoc ?_)
      obtain ⟨g, eg⟩ : ∃ g, W5.heap.size = g := ⟨_, rfl⟩
      rw [eg] at N0 L5 ⊢
      refine wp_gen (fun W => Blk W w.heap.size 52 C64 ∧ Blk W g 52 cc ∧ Below w.heap.size w W) ⟨hb5.later (eg ▸ HL), N0, hw5.then_ (eg ▸ HL)⟩ ?_
      clear T0 HL N0 eg hb5 hw5
      rintro W6 ⟨hb6, hg6, hw6⟩
      obtain ⟨T1, HL1, N1⟩ := ansB (cs := cc) hb6 hw6 (Nat.le_refl _) (Below.refl _ _) (by rw [hlc]; rfl)
      have hr6 := hg6.rng
      clear hb6 hw6
      go_wp2_with (first
        | (refine wpList_load_mid rfl 52 _ rfl g 0 rfl cc _ hr6 Tryd.underlying52 rfl hpb.size ?_)
        | (refine wpList_store_mid rfl 52 _ _ rfl w.heap.size 0 cc.toArray rfl rfl T1 hS hoc ?_))
      exact bodyPost_ret (v := .agg cc.toArray) (res_cell rfl _ _ _ _ rfl (N1.load 52 Tryd.underlying52 rfl hpb.size)) rfl ⟨_, rfl, ⟨_, rfl, hpb⟩, HL1⟩
end Go.Proofs.YtkfdclnaaphdgaaDoor
