/- Layer 4: powers. -/
import Derived.Test.YtpdoegfmngibgaaFdH
import Derived.Test.YtpdoegfmngibgaaFdD
namespace Go.Proofs.Ytpdoegfmngibgaa
open Go.ChangeShapes Go.WideShapes Go.ChangeAt Go.RowKit Go.IntWalk
set_option linter.unusedVariables false

/-- ones: so many bits, less a small number. -/
def onesF (count less : Nat) : List UInt8 := leB 32 (2 ^ count - 1 - less)
/-- The bytes behind k bits. -/
def bitsF (k : Nat) : List UInt8 := leB 32 (2 ^ k - 1)
theorem bits_step : ∀ k : Fin 255, (bitsF k.val)[k.val / 8]?.map (fun c => c.toNat) = some (2 ^ (k.val % 8) - 1) ∧ (bitsF k.val).set (k.val / 8) (UInt8.ofNat (2 ^ (k.val % 8 + 1) - 1)) = bitsF (k.val + 1) := by decide +kernel

theorem ones_set (count less : Nat) (h8 : 8 ≤ count) (hl : less < 256) : (bitsF count).set 0 (UInt8.ofNat (255 - less)) = onesF count less ∧ (bitsF count)[0]? = some 255 := by
  obtain ⟨m, hm⟩ : ∃ m, 2 ^ count = 256 * (m + 1) := by
    have h : 2 ^ count = 2 ^ 8 * 2 ^ (count - 8) := by rw [← Nat.pow_add]; congr 1; omega
    have hp : 0 < 2 ^ (count - 8) := Nat.pow_pos (by decide)
    exact ⟨2 ^ (count - 8) - 1, by rw [h]; congr 1; omega⟩
  unfold bitsF onesF
  rw [hm]
  have e1 : 256 * (m + 1) - 1 = 255 + 256 * m := by omega
  have e2 : 256 * (m + 1) - 1 - less = (255 - less) + 256 * m := by omega
  rw [e1, show 255 + 256 * m - less = (255 - less) + 256 * m by omega]
  have s : ∀ x, leB 32 x = UInt8.ofNat (x % 256) :: leB 31 (x / 256) := fun x => rfl
  rw [s, s, show (255 + 256 * m) % 256 = 255 by omega, show (255 + 256 * m) / 256 = m by omega, show ((255 - less) + 256 * m) % 256 = 255 - less by omega, show ((255 - less) + 256 * m) / 256 = m by omega]
  exact ⟨rfl, rfl⟩
theorem or_bit : ∀ r : Fin 8, bits .or .u8 ((2 ^ r.val - 1 : Nat) : Int) ((2 ^ r.val : Nat) : Int) = ((2 ^ (r.val + 1) - 1 : Nat) : Int) := by decide +kernel
theorem or_val8 : ∀ r : Fin 8, bits .or .u8 ((2 ^ r.val - 1 : Nat) : Int) ((2 : Int) ^ r.val % 256) = ((2 ^ (r.val + 1) - 1 : Nat) : Int) := by decide +kernel
theorem or_val (k : Nat) : bits .or .u8 ((2 ^ (k % 8) - 1 : Nat) : Int) ((2 : Int) ^ (k % 8) % 256) = ((2 ^ (k % 8 + 1) - 1 : Nat) : Int) := or_val8 ⟨k % 8, by omega⟩
theorem UBlk.range {w : World} {g : Nat} {bs : List UInt8} {cs : List Value} (h : UBlk w g bs) (hcs : u8s bs = cs) : w.rangeAt g 0 cs := by
  intro j v hv
  unfold UBlk at h
  rw [hcs] at h
  rw [Nat.zero_add, cell_of_row _ _ _ _ _ _ h]; simpa using hv
theorem UBlk.there {w : World} {g n : Nat} (h : UBlk w g (List.replicate 32 0)) (hn : n = 32) : w.there g 0 n := by
  intro j hj
  have hj2 : j < 32 := by omega
  unfold UBlk at h
  rw [Nat.zero_add]
  refine ⟨?_, by simp [World.frozen?, h]⟩
  rw [cell_of_row _ _ _ _ _ _ h]; simp [u8s, hj2]
def OnS (w : World) (k : Nat) (W : World) : Prop := UBlk W (w.heap.size + 1) (bitsF k) ∧ UBlk W w.heap.size (List.replicate 32 0) ∧ Below w.heap.size w W
theorem UBlk.other {w : World} {g g2 k : Nat} {ws : List UInt8} {x : Value} (h : UBlk w g ws) (hne : g2 ≠ g) : UBlk (w.setCell ⟨g2, k, none⟩ x) g ws := by
  unfold UBlk at h ⊢
  simp [World.setCell, Array.getElem?_modify, h, hne]
theorem OnS.step {w W : World} {k : Nat} (h : OnS w k W) (hk : k < 255) (y : Int) (hy : y = (2 ^ (k % 8 + 1) - 1 : Nat)) : OnS w (k + 1) (W.setCell ⟨w.heap.size + 1, k / 8, none⟩ (.int .u8 y)).drew := by
  have hlt : 2 ^ (k % 8 + 1) ≤ 2 ^ 8 := Nat.pow_le_pow_right (by decide) (by omega)
  have e : y = ((UInt8.ofNat (2 ^ (k % 8 + 1) - 1)).toNat : Int) := by rw [hy]; simp; omega
  rw [e]
  refine ⟨?_, h.2.1.other (by omega), (h.2.2.setCell (by show w.heap.size ≤ w.heap.size + 1; omega) _).drewN 1⟩
  have := (bits_step ⟨k, hk⟩).2
  simp only at this
  rw [← this]
  exact h.1.set_ _ _
theorem OnS.start {w : World} : OnS w 0 ((w.alloc (.cells #[.int .u8 0, .int .u8 0, .int .u8 0, .int .u8 0, .int .u8 0, .int .u8 0, .int .u8 0, .int .u8 0, .int .u8 0, .int .u8 0, .int .u8 0, .int .u8 0, .int .u8 0, .int .u8 0, .int .u8 0, .int .u8 0, .int .u8 0, .int .u8 0, .int .u8 0, .int .u8 0, .int .u8 0, .int .u8 0, .int .u8 0, .int .u8 0, .int .u8 0, .int .u8 0, .int .u8 0, .int .u8 0, .int .u8 0, .int .u8 0, .int .u8 0, .int .u8 0] 22)).alloc (.cells #[.int .u8 0, .int .u8 0, .int .u8 0, .int .u8 0, .int .u8 0, .int .u8 0, .int .u8 0, .int .u8 0, .int .u8 0, .int .u8 0, .int .u8 0, .int .u8 0, .int .u8 0, .int .u8 0, .int .u8 0, .int .u8 0, .int .u8 0, .int .u8 0, .int .u8 0, .int .u8 0, .int .u8 0, .int .u8 0, .int .u8 0, .int .u8 0, .int .u8 0, .int .u8 0, .int .u8 0, .int .u8 0, .int .u8 0, .int .u8 0, .int .u8 0, .int .u8 0] 22)) := by
  refine ⟨?_, ?_, ((Below.refl _ _).alloc (Nat.le_refl _) _).alloc (by simp) _⟩
  · have h := heap_alloc_new (w.alloc (.cells #[.int .u8 0, .int .u8 0, .int .u8 0, .int .u8 0, .int .u8 0, .int .u8 0, .int .u8 0, .int .u8 0, .int .u8 0, .int .u8 0, .int .u8 0, .int .u8 0, .int .u8 0, .int .u8 0, .int .u8 0, .int .u8 0, .int .u8 0, .int .u8 0, .int .u8 0, .int .u8 0, .int .u8 0, .int .u8 0, .int .u8 0, .int .u8 0, .int .u8 0, .int .u8 0, .int .u8 0, .int .u8 0, .int .u8 0, .int .u8 0, .int .u8 0, .int .u8 0] 22)) (.cells #[.int .u8 0, .int .u8 0, .int .u8 0, .int .u8 0, .int .u8 0, .int .u8 0, .int .u8 0, .int .u8 0, .int .u8 0, .int .u8 0, .int .u8 0, .int .u8 0, .int .u8 0, .int .u8 0, .int .u8 0, .int .u8 0, .int .u8 0, .int .u8 0, .int .u8 0, .int .u8 0, .int .u8 0, .int .u8 0, .int .u8 0, .int .u8 0, .int .u8 0, .int .u8 0, .int .u8 0, .int .u8 0, .int .u8 0, .int .u8 0, .int .u8 0, .int .u8 0] 22)
    rw [show (w.alloc (.cells #[.int .u8 0, .int .u8 0, .int .u8 0, .int .u8 0, .int .u8 0, .int .u8 0, .int .u8 0, .int .u8 0, .int .u8 0, .int .u8 0, .int .u8 0, .int .u8 0, .int .u8 0, .int .u8 0, .int .u8 0, .int .u8 0, .int .u8 0, .int .u8 0, .int .u8 0, .int .u8 0, .int .u8 0, .int .u8 0, .int .u8 0, .int .u8 0, .int .u8 0, .int .u8 0, .int .u8 0, .int .u8 0, .int .u8 0, .int .u8 0, .int .u8 0, .int .u8 0] 22)).heap.size = w.heap.size + 1 by simp] at h
    exact h
  · exact (heap_alloc_old _ _ (by simp)).trans (heap_alloc_new w _)

set_option maxRecDepth 100000 in
set_option maxHeartbeats 4000000 in
theorem ones_calls (count : Nat) (less : UInt8) (hc : count ≤ 255) (hc8 : 8 ≤ count) (w : World) :
    Calls Try.prog 42 #[.int .i64 (count : Int), .int .u8 (less.toNat : Int)] w (BPost (onesF count less.toNat) w) := by
  go_enter Try.func42, Try.ntmps42
  have hs0 := OnS.start (w := w)
  have HS0 := Lib.hid hs0
  clear hs0
  go_wp2_with fail
  go_loopw [8] (fun i wr => ∃ k : Nat, k ≤ count ∧ i = .int .i64 (k : Int) ∧ OnS w k wr) (fun i _ => count - (intOf i).toNat)
  case atStart => exact ⟨0, by omega, rfl, HS0.out⟩
  case round =>
    obtain ⟨k, hk, rfl, hs⟩ := hrel
    by_cases hp : k < count
    · have hb := (bits_step ⟨k, by omega⟩).1
      simp only at hb
      obtain ⟨c, hcc, hcv⟩ := Option.map_eq_some_iff.1 hb
      have hlen := (List.getElem?_eq_some_iff.1 hcc).1
      have g1 := hs.1.cell hlen
      rw [(List.getElem?_eq_some_iff.1 hcc).2, hcv] at g1
      have g2 := hs.1.frozen (k / 8)
      obtain ⟨j, hj⟩ : ∃ j, k / 8 = j := ⟨_, rfl⟩
      have hk8 : (k : Int) / 8 = (j : Int) := by omega
      have ho := or_bit ⟨k % 8, by omega⟩
      simp only at ho
      have hnx := fun y hy => OnS.step hs (by omega) y hy
      rw [hj] at g1 g2 hnx
      have HNX := Lib.hid hnx
      have hj32 : j < 32 := by omega
      clear hb hcc hcv hlen hs hnx
      go_wp2_with fail
      go_region
      all_goals go_wp2_with fail
      all_goals exact ⟨⟨k + 1, by omega, by go_num, HNX.out _ (or_val k)⟩, by simp [intOf]; omega⟩
    · obtain rfl : k = count := by omega
      obtain ⟨hset, hget⟩ := ones_set k less.toNat hc8 less.toNat_lt
      have hln := less.toNat_lt
      have g1 := hs.1.cell (List.getElem?_eq_some_iff.1 hget).1
      rw [(List.getElem?_eq_some_iff.1 hget).2] at g1
      have g2 := hs.1.frozen 0
      have hsub : IntKind.u8.wrap (255 - (less.toNat : Int)) = ((UInt8.ofNat (255 - less.toNat)).toNat : Int) := by
        rw [IntKind.wrap_u8]; simp; omega
      obtain ⟨x, hx⟩ : ∃ x, UInt8.ofNat (255 - less.toNat) = x := ⟨_, rfl⟩
      rw [hx] at hset hsub
      have hu := hs.1.set_ 0 x
      rw [hset] at hu
      have hr : UBlk (wr.setCell ⟨w.heap.size + 1, 0, none⟩ (.int .u8 (x.toNat : Int))) w.heap.size (List.replicate 32 0) := hs.2.1.other (by omega)
      have hbw : Below w.heap.size w (wr.setCell ⟨w.heap.size + 1, 0, none⟩ (.int .u8 (x.toNat : Int))) := hs.2.2.setCell (by show w.heap.size ≤ w.heap.size + 1; omega) _
      obtain ⟨cs, hcs⟩ : ∃ cs, u8s (onesF k less.toNat) = cs := ⟨_, rfl⟩
      have hlen : cs.length = 32 := by rw [← hcs]; simp [u8s, onesF, leB_len]
      have hone : cs.toArray.all (·.oneCell') = true := by
        rw [← hcs]
        apply all_oneCell_toArray
        intro v hv
        obtain ⟨y, _, rfl⟩ := List.mem_map.1 hv
        rfl
      have hrg := hu.range hcs
      have hth : (wr.setCell ⟨w.heap.size + 1, 0, none⟩ (.int .u8 (x.toNat : Int))).there w.heap.size 0 cs.toArray.size := hr.there (by simpa using hlen)
      have hsz1 : (Try.prog.info? 22).map (·.size) = some cs.length := by rw [hlen]; exact size32
      have hsz2 : (Try.prog.info? 22).map (·.size) = some cs.toArray.size := by simpa using hsz1
      have HC := Lib.hid hcs
      have HB := Lib.hid hbw
      have HRR := Lib.hid hrg
      have HTT := Lib.hid hth
      have HS1 := Lib.hid hsz1
      have HS2 := Lib.hid hsz2
      clear hs hu hcs hlen hrg hth hsz1 hsz2 hset hget hr hbw hx hln
      go_wp2_with (first
        | (refine wpList_load_mid rfl 22 _ rfl (w.heap.size + 1) 0 rfl cs _ HRR.out Try.underlying22 rfl HS1.out ?_)
        | (refine wpList_store_mid rfl 22 _ _ rfl w.heap.size 0 cs.toArray rfl rfl HTT.out HS2.out hone ?_))
      have hld : (loadVar 22 ⟨w.heap.size, 0, none⟩).run Try.prog ((wr.setCell ⟨w.heap.size + 1, 0, none⟩ (.int .u8 (x.toNat : Int))).setCells w.heap.size 0 cs) = .ok (.agg cs.toArray) ((wr.setCell ⟨w.heap.size + 1, 0, none⟩ (.int .u8 (x.toNat : Int))).setCells w.heap.size 0 cs) :=
        run_loadVar_mid _ _ _ _ cs _ (World.rangeAt_setCells_same _ _ _ _ (by simpa using HTT.out)) Try.underlying22 rfl HS1.out
      refine bodyPost_ret (v := .agg cs.toArray) ?_ rfl ⟨?_, below_cells (Nat.le_refl _) cs 0 _ HB.out⟩
      · exact results_cell rfl _ _ _ _ rfl hld
      · show Ending.returned (.agg cs.toArray) = .returned (.agg (u8s (onesF k less.toNat)).toArray)
        rw [HC.out]
end Go.Proofs.Ytpdoegfmngibgaa
