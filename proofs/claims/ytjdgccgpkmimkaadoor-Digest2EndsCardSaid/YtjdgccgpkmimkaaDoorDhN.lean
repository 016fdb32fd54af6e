/- Layer 3: the law that Of answers what the document says at each length, of one byte. -/
import Derived.Test.YtjdgccgpkmimkaaDoorDhM
import Derived.Deep.OwnRows
namespace Go.Proofs.YtjdgccgpkmimkaaDoor
open Go.ChangeShapes Go.WideShapes Go.ChangeAt Go.RowKit Go.IntWalk
set_option linter.unusedVariables false

def EndS (m : Nat) (x : UInt8) (w : World) (g : Nat) (k : Nat) (wr : World) : Prop :=
  BlkBs wr g (List.replicate k x ++ List.replicate (m - k) 0) ∧ Below w.heap.size w wr ∧ w.heap.size ≤ g
theorem ends_set (m k : Nat) (x : UInt8) (hk : k < m) : (List.replicate k x ++ List.replicate (m - k) (0 : UInt8)).set k x = List.replicate (k + 1) x ++ List.replicate (m - (k + 1)) 0 := by
  rw [List.set_append_right _ _ (by simp), List.length_replicate, Nat.sub_self, show m - k = (m - (k + 1)) + 1 by omega, List.replicate_succ (n := m - (k + 1)), List.set_cons_zero, List.replicate_succ', List.append_assoc]
  rfl
set_option maxRecDepth 100000 in
set_option maxHeartbeats 4000000 in
theorem digest2Ends_walk (n : Int) (hn : (Lit.int .i64 n).wf = true) (c : Int) (hc : (Lit.int .u8 c).wf = true) {w : World} (hT : Tab w) :
    Calls Tryd.prog 4 #[.int .i64 n, .int .u8 c] w fun e w' => e = .returned (.bool true) ∧ Below w.heap.size w w' := by
  have H0 := Lib.hid hT
  clear hT
  obtain ⟨x, hx⟩ : ∃ x : UInt8, c = (x.toNat : Int) := by
    simp [Lit.wf, IntKind.min, IntKind.max, IntKind.signed, IntKind.bits] at hc
    exact ⟨UInt8.ofNat c.toNat, by simp; omega⟩
  subst hx
  go_enter Tryd.func4, Tryd.ntmps4
  go_wp2_with fail
  refine (alive_calls _ H0.out).mono ?_
  rintro e w1 ⟨rfl, b1⟩
  by_cases hneg : n < 0
  · have B1 := Lib.hid b1
    have hd : decide (n < 0) = true := by simpa using hneg
    clear b1
    go_wp2_with fail
    go_ret
    exact ⟨rfl, B1.out⟩
  · by_cases hbig : 600 < n
    · have B1 := Lib.hid b1
      have hd : decide (n < 0) = false := by simpa using hneg
      have hd2 : decide (600 < n) = true := by simpa using hbig
      clear b1
      go_wp2_with fail
      go_ret
      exact ⟨rfl, B1.out⟩
    · obtain ⟨m, rfl⟩ : ∃ m : Nat, n = (m : Int) := ⟨n.toNat, by omega⟩
      have hm : m ≤ 600 := by omega
      have H1 := Lib.hid (And.intro (H0.out.later b1) b1)
      clear b1 hneg hbig hc hn
      have hmk : ∀ W : World, (Instr.makeSlice 22 (.int .i64 (m : Int)) (.int .i64 (m : Int))).run Tryd.prog W = .ok (.slice (some ⟨W.heap.size, 0, none⟩) m m) (W.alloc (.cells ((List.replicate m (0 : UInt8)).map fun c => Value.int .u8 (c.toNat : Int)).toArray 5)) := fun W => by
        have h := run_make_row' (P := Tryd.prog) 22 5 (.int .u8 0) 1 Tryd.underlying22 infoU8 rfl .i64 .i64 m (by omega) (by omega) W
        have e : madeCells #[Value.int .u8 0] m = ((List.replicate m (0 : UInt8)).map fun c => Value.int .u8 (c.toNat : Int)).toArray := by have := zeros_u8 m; rw [Nat.mul_one] at this; rw [← this]; simp [Value.cells]
        rw [h, e]
      obtain ⟨CS, hCS⟩ : ∃ C : Array Value, ((List.replicate m (0 : UInt8)).map fun c => Value.int .u8 (c.toNat : Int)).toArray = C := ⟨_, rfl⟩
      rw [hCS] at hmk
      have hd0 : decide ((m : Int) < 0) = false := by simp
      have hd1 : decide (600 < (m : Int)) = false := by simp; omega
      obtain ⟨g, hg⟩ : ∃ g, w1.heap.size = g := ⟨_, rfl⟩
      have H2 : Hid (EndS m x w g 0 (w1.alloc (.cells CS 5))) := Lib.hid ⟨by rw [← hg, ← hCS]; exact heap_alloc_new w1 _, H1.out.2.alloc H1.out.2.size _, by rw [← hg]; exact H1.out.2.size⟩
      go_wp2_with fail
      clear hmk hd0 hd1 hCS
      go_loopw [20] (fun i wr => ∃ k : Nat, k ≤ m ∧ i = .int .i64 (k : Int) ∧ EndS m x w g k wr) (fun i _ => m - (intOf i).toNat)
      case atStart => exact ⟨0, by omega, rfl, H2.out⟩
      case round =>
        clear H2 hg
        obtain ⟨k, hk, rfl, hB, hb, hgw⟩ := hrel
        by_cases hp : k < m
        · have hkl : k < (List.replicate k x ++ List.replicate (m - k) (0 : UInt8)).length := by simp; omega
          have hcell := hB.cell hkl
          have hfr := hB.frozen k
          have hset := hB.set_ k x
          rw [ends_set m k x hp] at hset
          have H3 := Lib.hid (And.intro hset (And.intro (hb.setCell (p := ⟨g, k, none⟩) hgw (.int .u8 (x.toNat : Int))) hgw))
          clear hset hB hb hgw hkl
          have hlt : decide ((k : Int) < (m : Int)) = true := by simp; omega
          go_wp2
          go_roundw
          case rel => exact ⟨k + 1, by omega, by go_num, H3.out⟩
          case measure => simp [intOf]; omega
        · obtain rfl : k = m := by omega
          rw [Nat.sub_self, List.replicate_zero, List.append_nil] at hB
          obtain ⟨bs, hbs⟩ : ∃ l, List.replicate k x = l := ⟨_, rfl⟩
          rw [hbs] at hB
          have hlen : Hid (k = bs.length) := Lib.hid (by rw [← hbs]; simp)
          have hbl : bs.length < 2 ^ 30 := by rw [← hlen.out]; omega
          have hrb : RB wr (some ⟨g, 0, none⟩) bs := fun j hj => ⟨g, 0, rfl, hB.lt, by rw [Nat.zero_add]; exact hB.cell hj⟩
          have H4 := Lib.hid (And.intro (H0.out.later hb) (And.intro hrb hb))
          clear hB hb hrb hbs H1
          go_wp2_with fail
          refine (of_calls bs hbl (some ⟨g, 0, none⟩) k k hlen (Nat.le_refl _) _ H4.out.1 H4.out.2.1).mono ?_
          rintro e w2 ⟨rfl, b2⟩
          have hl := laid_digest wr w2 bs b2
          obtain ⟨ds, hds⟩ : ∃ d, u8b (digest bs) = d := ⟨_, rfl⟩
          rw [hds] at hl ⊢
          have HL := Lib.hid hl
          have HDS := Lib.hid hds
          clear hl hds b2
          go_upto_region 12 with (refine wpList_store_mid rfl 24 _ _ rfl w2.heap.size 0 ds.toArray rfl rfl HL.out.2.2.1 HL.out.2.2.2.2 HL.out.2.2.2.1 ?_)
          obtain ⟨g2, hg2⟩ : ∃ g, w2.heap.size = g := ⟨_, rfl⟩
          rw [hg2] at HL ⊢
          refine wp_gen (fun W6 => Blk W6 g2 24 (u8b (digest bs)) ∧ RB W6 (some ⟨g, 0, none⟩) bs ∧ Below w.heap.size w W6) ⟨by rw [HDS.out]; exact HL.out.1, H4.out.2.1.below HL.out.2.1, H4.out.2.2.then_ HL.out.2.1⟩ ?_
          rintro W6 ⟨hB6, hr6, hb6⟩
          have H6 := Lib.hid hb6
          have hcv : ∀ W, Below W6.heap.size W6 W → (convert 22 9 (.slice (some ⟨g2, 0, none⟩) 64 64)).run Tryd.prog W = .ok (.string ⟨(digest bs).toArray⟩) W := fun W hW => run_str_rb W _ 64 64 _ (hB6.later hW).rbU (Lib.hid (digest_len bs).symm)
          clear hb6 HL hg2 HDS H4
          apply wp_region_g 5 (by kernel_rfl) (by kernel_rfl)
          simp only [List.take_succ_cons, List.take_zero, List.drop_succ_cons, List.drop_zero]
          apply lg_pure (.slice (some ⟨g2, 0, none⟩) 64 64) rfl (by intro W; go_simp)
          simp only [Act.put, List.setIfInBounds_toArray, List.set_cons_succ, List.set_cons_zero]
          apply lg_run (.string ⟨(digest bs).toArray⟩) rfl (by intro W hW; have := hcv W hW; go_simp)
          simp only [Act.put, List.setIfInBounds_toArray, List.set_cons_succ, List.set_cons_zero]
          apply lg_pure (.slice (some ⟨g, 0, none⟩) k k) rfl (by intro W; go_simp)
          simp only [Act.put, List.setIfInBounds_toArray, List.set_cons_succ, List.set_cons_zero]
          apply lg_callx_in (.string ⟨(digest bs).toArray⟩) 9 #[.slice (some ⟨g, 0, none⟩) k k] rfl (by intro W; go_simp) (fun W hW => refOf_calls bs hbl (some ⟨g, 0, none⟩) k k hlen W (hr6.below hW))
          simp only [Act.put, List.setIfInBounds_toArray, List.set_cons_succ, List.set_cons_zero]
          apply lg_pure (.bool true) rfl (by intro W; go_simp)
          simp only [Act.put, List.setIfInBounds_toArray, List.set_cons_succ, List.set_cons_zero]
          refine lg_nil ?_
          intro w7 hC7
          have H7 := Lib.hid (H6.out.then_ hC7.1)
          clear hC7 hcv hB6 hr6
          go_wp2_with fail
          go_ret
          exact ⟨rfl, H7.out⟩
end Go.Proofs.YtjdgccgpkmimkaaDoor
