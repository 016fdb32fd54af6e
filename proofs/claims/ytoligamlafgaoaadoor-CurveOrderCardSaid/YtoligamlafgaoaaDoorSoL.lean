/- Layer 5: products of words. -/
import Derived.Test.YtoligamlafgaoaaDoorSoF
import Derived.Test.YtoligamlafgaoaaDoorLh
import Derived.Deep.RegionHeld3
import Derived.Laws.Tables
import Derived.Laws.CopyOwn
namespace Go.Proofs.YtoligamlafgaoaaDoor.Sc
open Go.Proofs.YtoligamlafgaoaaDoor
open Go.ChangeShapes Go.WideShapes Go.ChangeAt Go.RowKit Go.IntWalk
set_option linter.unusedVariables false
theorem rb_blk {w : World} {g : Nat} {bs : List UInt8} {T : TypeId} (h : Blk w g T (u8b bs)) : RB w (some ⟨g, 0, none⟩) bs := by
  intro k hk
  refine ⟨g, 0, rfl, h.lt, ?_⟩
  rw [Nat.zero_add]
  have := h.cell (u8b_at (List.getElem?_eq_getElem hk))
  rw [this]; simp [List.getD, hk]

def MaPost (s : Nat) (w : World) (e : Ending) (w' : World) : Prop := ∃ lo hi : Nat, e = .returned (.tuple #[.int .u64 (lo : Int), .int .u64 (hi : Int)]) ∧ lo < 2 ^ 64 ∧ hi < 2 ^ 64 ∧ lo + 2 ^ 64 * hi = s ∧ w' = w
set_option maxRecDepth 100000 in
set_option maxHeartbeats 4000000 in
theorem mulAdd_calls (a b c d : Nat) (ha : a < 2 ^ 64) (hb : b < 2 ^ 64) (hc : c < 2 ^ 64) (hd : d < 2 ^ 64) (w : World) :
    Calls Tryd.prog 58 #[.int .u64 (a : Int), .int .u64 (b : Int), .int .u64 (c : Int), .int .u64 (d : Int)] w (MaPost (a * b + c + d) w) := by
  have hab : a * b ≤ (2 ^ 64 - 1) * (2 ^ 64 - 1) := Nat.mul_le_mul (by omega) (by omega)
  have HM := Lib.hid (fun W => Tryd.bits_Mul64 a b ha hb W)
  generalize a * b = q at *
  obtain ⟨hi, hhi⟩ : ∃ x, q / 18446744073709551616 = x := ⟨_, rfl⟩
  obtain ⟨lo, hlo⟩ : ∃ x, q % 18446744073709551616 = x := ⟨_, rfl⟩
  have g1 : ∀ W : World, (callFunc 59 #[.int .u64 (lo : Int), .int .u64 (c : Int), .int .u64 0]).run Tryd.prog W = _ := fun W => add64_run lo c 0 (by omega) W
  obtain ⟨s1, hs1⟩ : ∃ s, (lo + c + 0) % 18446744073709551616 = s := ⟨_, rfl⟩
  obtain ⟨u1, hu1⟩ : ∃ c1, (lo + c + 0) / 18446744073709551616 = c1 := ⟨_, rfl⟩
  rw [hs1, hu1] at g1
  have g2 : ∀ W : World, (callFunc 59 #[.int .u64 (s1 : Int), .int .u64 (d : Int), .int .u64 0]).run Tryd.prog W = _ := fun W => add64_run s1 d 0 (by omega) W
  obtain ⟨s2, hs2⟩ : ∃ s, (s1 + d + 0) % 18446744073709551616 = s := ⟨_, rfl⟩
  obtain ⟨u2, hu2⟩ : ∃ c1, (s1 + d + 0) / 18446744073709551616 = c1 := ⟨_, rfl⟩
  rw [hs2, hu2] at g2
  have e1 : IntKind.u64.wrap ((hi : Int) + (u1 : Int)) = ((hi + u1 : Nat) : Int) := by rw [IntKind.wrap_u64]; omega
  have e2 : IntKind.u64.wrap (((hi + u1 : Nat) : Int) + (u2 : Int)) = ((hi + u1 + u2 : Nat) : Int) := by rw [IntKind.wrap_u64]; omega
  have HR : Hid (s2 < 2 ^ 64 ∧ hi + u1 + u2 < 2 ^ 64 ∧ s2 + 2 ^ 64 * (hi + u1 + u2) = q + c + d) := Lib.hid ⟨by omega, by omega, by omega⟩
  rw [hhi, hlo] at HM
  obtain ⟨hx, hhx⟩ : ∃ x, hi + u1 = x := ⟨_, rfl⟩
  rw [hhx] at e1 e2 HR
  obtain ⟨hy, hhy⟩ : ∃ x, hx + u2 = x := ⟨_, rfl⟩
  rw [hhy] at e2 HR
  clear hs1 hu1 hs2 hu2 hhi hlo hab ha hb hc hd hhx hhy
  go_enter Tryd.func58, Tryd.ntmps58
  go_wp2_with fail
  refine (HM.out _).mono ?_
  rintro e w2 ⟨rfl, rfl⟩
  go_wp2_with fail
  exact bodyPost_ret (v := .tuple #[.int .u64 (s2 : Int), .int .u64 (hy : Int)]) (by simp [results, Tryd.results58, go_sem]) rfl ⟨s2, hy, rfl, HR.out.1, HR.out.2.1, HR.out.2.2, rfl⟩
theorem valW_set2 : ∀ (l : List Nat) (i x old : Nat), l[i]? = some old → valW (l.set i x) + 2 ^ (64 * i) * old = valW l + 2 ^ (64 * i) * x
  | [], i, x, old, h => by simp at h
  | y :: l, 0, x, old, h => by
    simp at h; subst h
    simp only [List.set_cons_zero, valW, Nat.mul_zero, Nat.pow_zero, Nat.one_mul]; omega
  | y :: l, i + 1, x, old, h => by
    have ih := valW_set2 l i x old (by simpa using h)
    rw [List.set_cons_succ, valW, valW, show 64 * (i + 1) = 64 * i + 64 by omega, Nat.pow_add]
    have e1 : 2 ^ (64 * i) * 2 ^ 64 * old = 2 ^ 64 * (2 ^ (64 * i) * old) := by rw [Nat.mul_comm (2 ^ (64 * i)) (2 ^ 64), Nat.mul_assoc]
    have e2 : 2 ^ (64 * i) * 2 ^ 64 * x = 2 ^ 64 * (2 ^ (64 * i) * x) := by rw [Nat.mul_comm (2 ^ (64 * i)) (2 ^ 64), Nat.mul_assoc]
    rw [e1, e2]; omega
def RowM (V p up : Nat) (ss : List Nat) : Prop := ss.length = 8 ∧ (∀ x ∈ ss, x < 2 ^ 64) ∧ up < 2 ^ 64 ∧ valW ss + 2 ^ (64 * p) * up = V
theorem RowM.step {V p up s q lo hi : Nat} {ss : List Nat} (h : RowM V p up ss) (hs : ss[p]? = some s) (hlo : lo < 2 ^ 64) (hhi : hi < 2 ^ 64) (he : lo + 2 ^ 64 * hi = q + s + up) : RowM (V + 2 ^ (64 * p) * q) (p + 1) hi (ss.set p lo) := by
  obtain ⟨h1, h2, h3, h4⟩ := h
  refine ⟨by rw [List.length_set]; exact h1, fun x hx => ?_, hhi, ?_⟩
  · rcases List.mem_or_eq_of_mem_set hx with h | rfl
    · exact h2 x h
    · exact hlo
  · have h5 := valW_set2 ss p lo s hs
    have h6 : 2 ^ (64 * p) * lo + 2 ^ (64 * p) * (2 ^ 64 * hi) = 2 ^ (64 * p) * q + 2 ^ (64 * p) * s + 2 ^ (64 * p) * up := by rw [← Nat.mul_add, ← Nat.mul_add, ← Nat.mul_add, he]
    rw [show 64 * (p + 1) = 64 * p + 64 by omega, Nat.pow_add, Nat.mul_assoc]
    omega
theorem RowM.at {V p up q : Nat} {ss : List Nat} (h : RowM V p up ss) (hq : q < 8) : ∃ s, ss[q]? = some s ∧ s < 2 ^ 64 :=
  ⟨ss[q]'(by rw [h.1]; exact hq), List.getElem?_eq_getElem (by rw [h.1]; exact hq), h.2.1 _ (List.getElem_mem _)⟩
theorem RowM.over {V up : Nat} {ss : List Nat} (h : RowM V 8 up ss) (hV : V < 256 ^ 64) : up = 0 := by
  obtain ⟨_, _, _, h4⟩ := h
  rcases Nat.eq_zero_or_pos up with h | h
  · exact h
  · have e : 2 ^ (64 * 8) = 256 ^ 64 := by decide +kernel
    rw [e] at h4
    have : 256 ^ 64 * 1 ≤ 256 ^ 64 * up := Nat.mul_le_mul_left _ h
    omega
/-- Where products are gathered. -/
def MuS (w : World) (gx gy gs : Nat) (ma mb ss : List Nat) (wr : World) : Prop :=
  Blk wr gx 79 (nu ma) ∧ Blk wr gy 79 (nu mb) ∧ Blk wr gs 85 (nu ss) ∧ Blk wr (w.heap.size + 1 + 1 + 1) 22 (u8b (List.replicate 32 0)) ∧ Below w.heap.size w wr
theorem valW_take_le : ∀ (l : List Nat) (k : Nat), valW (l.take k) ≤ valW l
  | [], k => by simp
  | x :: l, 0 => by simp [valW]
  | x :: l, k + 1 => by
    have := valW_take_le l k
    simp only [List.take_succ_cons, valW]; omega
theorem valW_div : ∀ (l : List Nat) (j x : Nat), (∀ x ∈ l, x < 2 ^ 64) → l[j]? = some x → valW l / 2 ^ (64 * j) % 2 ^ 64 = x
  | [], j, x, _, h => by simp at h
  | y :: l, 0, x, hl, h => by
    simp at h; subst h
    have := hl y (List.mem_cons_self ..)
    simp only [valW, Nat.mul_zero, Nat.pow_zero, Nat.div_one]; omega
  | y :: l, j + 1, x, hl, h => by
    have ih := valW_div l j x (fun z hz => hl z (List.mem_cons_of_mem _ hz)) (by simpa using h)
    have hy := hl y (List.mem_cons_self ..)
    rw [show 64 * (j + 1) = 64 + 64 * j by omega, Nat.pow_add, ← Nat.div_div_eq_div_mul, valW, show (y + 2 ^ 64 * valW l) / 2 ^ 64 = valW l by omega]
    exact ih
theorem byte_word8 (ss : List Nat) (k j x : Nat) (hl : ∀ x ∈ ss, x < 2 ^ 64) (hj : k / 8 = j) (hx : ss[j]? = some x) :
    ((x / 2 ^ (8 * (k % 8)) % 256 : Nat) : Int) = ((byteF (valW ss) k).toNat : Int) := by
  have key : x / 2 ^ (8 * (k % 8)) % 256 = valW ss / 256 ^ k % 256 := by
    obtain ⟨r, hr⟩ : ∃ r, k % 8 = r := ⟨_, rfl⟩
    have e1 : (256 : Nat) ^ k = 2 ^ (64 * j) * 2 ^ (8 * r) := by rw [show (256 : Nat) = 2 ^ 8 from rfl, ← Nat.pow_mul, ← Nat.pow_add]; congr 1; omega
    rw [hr, e1, ← Nat.div_div_eq_div_mul, ← valW_div ss j x hl hx]
    generalize valW ss / 2 ^ (64 * j) = y
    have hr8 : r = 0 ∨ r = 1 ∨ r = 2 ∨ r = 3 ∨ r = 4 ∨ r = 5 ∨ r = 6 ∨ r = 7 := by omega
    rcases hr8 with rfl | rfl | rfl | rfl | rfl | rfl | rfl | rfl <;> omega
  rw [key]
  unfold byteF
  simp
def outG (N k : Nat) : List UInt8 := (leB 64 N).take k ++ List.replicate (64 - k) 0
theorem outG_step (N k : Nat) (hk : k < 64) : (outG N k).set k (byteF N k) = outG N (k + 1) := by
  unfold outG
  have hm : ((leB 64 N).take k).length = k := by rw [List.length_take, leB_len]; omega
  rw [List.set_append, hm, if_neg (by omega), Nat.sub_self, show 64 - k = (64 - (k + 1)) + 1 by omega, List.replicate_succ, List.set_cons_zero, List.take_add_one, leB_get 64 N k hk]
  simp
theorem outG_full (N : Nat) : outG N 64 = leB 64 N := by
  unfold outG
  rw [List.take_of_length_le (by rw [leB_len]; exact Nat.le_refl _)]; simp
theorem outG_zero (N : Nat) : outG N 0 = List.replicate 64 0 := by simp [outG]
theorem outG_len (N k : Nat) (hk : k ≤ 64) : (outG N k).length = 64 := by simp [outG, leB_len]; omega
theorem prod_lt (x y z : Nat) (hx : x < 256 ^ 32) (hy : y < 256 ^ 32) (hz : z < 256 ^ 32) : x * y + z < 256 ^ 64 := by
  have b5 : x * y ≤ (256 ^ 32 - 1) * (256 ^ 32 - 1) := Nat.mul_le_mul (by omega) (by omega)
  have b6 : (256 ^ 32 - 1) * (256 ^ 32 - 1) + 256 ^ 32 < 256 ^ 64 := by decide +kernel
  omega
theorem powmul (k j x y : Nat) : 2 ^ (64 * k) * (x * (2 ^ (64 * j) * y)) = 2 ^ (64 * (k + j)) * (x * y) := by
  rw [Nat.mul_left_comm x, ← Nat.mul_assoc, ← Nat.pow_add, Nat.mul_add]
theorem MuS.set_ {w wr : World} {gx gy gs : Nat} {ma mb ts : List Nat} (h : MuS w gx gy gs ma mb ts wr) (hn : gs ≠ gx ∧ gs ≠ gy ∧ gs ≠ w.heap.size + 1 + 1 + 1 ∧ gx ≠ gy ∧ w.heap.size ≤ gs) (p lo : Nat) :
    MuS w gx gy gs ma mb (ts.set p lo) (wr.setCell ⟨gs, p, none⟩ (.int .u64 (lo : Int))) :=
  ⟨h.1.other hn.1 _, h.2.1.other hn.2.1 _, by rw [← nu_set]; exact h.2.2.1.set_ p _, h.2.2.2.1.other hn.2.2.1 _, h.2.2.2.2.setCell hn.2.2.2.2 _⟩
theorem MuS.drewN {w wr : World} {gx gy gs : Nat} {ma mb ts : List Nat} (h : MuS w gx gy gs ma mb ts wr) (n : Nat) : MuS w gx gy gs ma mb ts (wr.drewN n) :=
  ⟨h.1.drewN n, h.2.1.drewN n, h.2.2.1.drewN n, h.2.2.2.1.drewN n, h.2.2.2.2.drewN n⟩
def AlS (w : World) (ga gs N : Nat) (ss : List Nat) (k : Nat) (wr : World) : Prop :=
  Blk wr ga 90 (u8b (outG N k)) ∧ Blk wr gs 85 (nu ss) ∧ Blk wr (w.heap.size + 1 + 1 + 1) 22 (u8b (List.replicate 32 0)) ∧ Below w.heap.size w wr
theorem AlS.step {w wr : World} {ga gs N k : Nat} {ss : List Nat} (h : AlS w ga gs N ss k wr) (hk : k < 64) (hn : ga ≠ gs ∧ ga ≠ w.heap.size + 1 + 1 + 1 ∧ w.heap.size ≤ ga) :
    AlS w ga gs N ss (k + 1) (wr.setCell ⟨ga, k, none⟩ (.int .u8 ((byteF N k).toNat : Int))) :=
  ⟨by rw [← outG_step N k hk, ← u8b_set]; exact h.1.set_ k _, h.2.1.other hn.1 _, h.2.2.1.other hn.2.1 _, h.2.2.2.setCell hn.2.2 _⟩
set_option maxRecDepth 100000 in
set_option maxHeartbeats 8000000 in
theorem mul_calls (xs ys zs : List UInt8) (ha : xs.length = 32) (hb : ys.length = 32) (hc : zs.length = 32) (w : World) (hT : Tab w) :
    Calls Tryd.prog 26 #[A32 xs, A32 ys, A32 zs] w (BPost ((leN xs * leN ys + leN zs) % LO) w) := by
  have HTT := Lib.hid hT
  have HNA := Lib.hid (numberOf_calls xs ha)
  have HNB := Lib.hid (numberOf_calls ys hb)
  have HNC := Lib.hid (numberOf_calls zs hc)
  have hsa := size32u xs ha
  have hsb := size32u ys hb
  have hsc := size32u zs hc
  unfold A32 at HNA HNB HNC ⊢
  obtain ⟨ca, hca⟩ : ∃ q, u8b xs = q := ⟨_, rfl⟩
  obtain ⟨cb, hcb⟩ : ∃ q, u8b ys = q := ⟨_, rfl⟩
  obtain ⟨cc, hcc⟩ : ∃ q, u8b zs = q := ⟨_, rfl⟩
  rw [hca] at hsa HNA ⊢
  rw [hcb] at hsb HNB ⊢
  rw [hcc] at hsc HNC ⊢
  clear hca hcb hcc
  go_enter Tryd.func26, Tryd.ntmps26
  go_wp2_with fail
  have hal := alloc3 w ca cb cc 22 22 22
  have hT1 := hT.later (Below.mono hal.2.2.2 (Nat.le_refl _))
  obtain ⟨w0, hw0⟩ : ∃ w1, ((w.alloc (.cells ca.toArray 22)).alloc (.cells cb.toArray 22)).alloc (.cells cc.toArray 22) = w1 := ⟨_, rfl⟩
  have hsz0 : w0.heap.size = w.heap.size + 1 + 1 + 1 := by rw [← hw0]; simp
  rw [hw0] at hal hT1 ⊢
  obtain ⟨i1a, i1b, i1c, ib1⟩ := hal
  have h1a := i1a.alloc (.cells #[.int .u8 0, .int .u8 0, .int .u8 0, .int .u8 0, .int .u8 0, .int .u8 0, .int .u8 0, .int .u8 0, .int .u8 0, .int .u8 0, .int .u8 0, .int .u8 0, .int .u8 0, .int .u8 0, .int .u8 0, .int .u8 0, .int .u8 0, .int .u8 0, .int .u8 0, .int .u8 0, .int .u8 0, .int .u8 0, .int .u8 0, .int .u8 0, .int .u8 0, .int .u8 0, .int .u8 0, .int .u8 0, .int .u8 0, .int .u8 0, .int .u8 0, .int .u8 0] 22)
  have h1b := i1b.alloc (.cells #[.int .u8 0, .int .u8 0, .int .u8 0, .int .u8 0, .int .u8 0, .int .u8 0, .int .u8 0, .int .u8 0, .int .u8 0, .int .u8 0, .int .u8 0, .int .u8 0, .int .u8 0, .int .u8 0, .int .u8 0, .int .u8 0, .int .u8 0, .int .u8 0, .int .u8 0, .int .u8 0, .int .u8 0, .int .u8 0, .int .u8 0, .int .u8 0, .int .u8 0, .int .u8 0, .int .u8 0, .int .u8 0, .int .u8 0, .int .u8 0, .int .u8 0, .int .u8 0] 22)
  have h1c := i1c.alloc (.cells #[.int .u8 0, .int .u8 0, .int .u8 0, .int .u8 0, .int .u8 0, .int .u8 0, .int .u8 0, .int .u8 0, .int .u8 0, .int .u8 0, .int .u8 0, .int .u8 0, .int .u8 0, .int .u8 0, .int .u8 0, .int .u8 0, .int .u8 0, .int .u8 0, .int .u8 0, .int .u8 0, .int .u8 0, .int .u8 0, .int .u8 0, .int .u8 0, .int .u8 0, .int .u8 0, .int .u8 0, .int .u8 0, .int .u8 0, .int .u8 0, .int .u8 0, .int .u8 0] 22)
  have h1r : Blk (w0.alloc (.cells #[.int .u8 0, .int .u8 0, .int .u8 0, .int .u8 0, .int .u8 0, .int .u8 0, .int .u8 0, .int .u8 0, .int .u8 0, .int .u8 0, .int .u8 0, .int .u8 0, .int .u8 0, .int .u8 0, .int .u8 0, .int .u8 0, .int .u8 0, .int .u8 0, .int .u8 0, .int .u8 0, .int .u8 0, .int .u8 0, .int .u8 0, .int .u8 0, .int .u8 0, .int .u8 0, .int .u8 0, .int .u8 0, .int .u8 0, .int .u8 0, .int .u8 0, .int .u8 0] 22)) w0.heap.size 22 (u8b (List.replicate 32 0)) := Blk.new _ _ _
  have hb1 : Below w.heap.size w (w0.alloc (.cells #[.int .u8 0, .int .u8 0, .int .u8 0, .int .u8 0, .int .u8 0, .int .u8 0, .int .u8 0, .int .u8 0, .int .u8 0, .int .u8 0, .int .u8 0, .int .u8 0, .int .u8 0, .int .u8 0, .int .u8 0, .int .u8 0, .int .u8 0, .int .u8 0, .int .u8 0, .int .u8 0, .int .u8 0, .int .u8 0, .int .u8 0, .int .u8 0, .int .u8 0, .int .u8 0, .int .u8 0, .int .u8 0, .int .u8 0, .int .u8 0, .int .u8 0, .int .u8 0] 22)) := Below.alloc (Below.mono ib1 (Nat.le_refl _)) (by omega) _
  have hT2 := hT1.later (Below.alloc (Below.refl w0.heap.size w0) (Nat.le_refl _) (.cells #[.int .u8 0, .int .u8 0, .int .u8 0, .int .u8 0, .int .u8 0, .int .u8 0, .int .u8 0, .int .u8 0, .int .u8 0, .int .u8 0, .int .u8 0, .int .u8 0, .int .u8 0, .int .u8 0, .int .u8 0, .int .u8 0, .int .u8 0, .int .u8 0, .int .u8 0, .int .u8 0, .int .u8 0, .int .u8 0, .int .u8 0, .int .u8 0, .int .u8 0, .int .u8 0, .int .u8 0, .int .u8 0, .int .u8 0, .int .u8 0, .int .u8 0, .int .u8 0] 22))
  generalize w0.alloc (.cells #[.int .u8 0, .int .u8 0, .int .u8 0, .int .u8 0, .int .u8 0, .int .u8 0, .int .u8 0, .int .u8 0, .int .u8 0, .int .u8 0, .int .u8 0, .int .u8 0, .int .u8 0, .int .u8 0, .int .u8 0, .int .u8 0, .int .u8 0, .int .u8 0, .int .u8 0, .int .u8 0, .int .u8 0, .int .u8 0, .int .u8 0, .int .u8 0, .int .u8 0, .int .u8 0, .int .u8 0, .int .u8 0, .int .u8 0, .int .u8 0, .int .u8 0, .int .u8 0] 22) = w1 at *
  clear hw0 hT i1a i1b i1c ib1 hT1
  have HC1 := Lib.hid h1c
  have HR1 := Lib.hid h1r
  apply wp_region_g 6 (by kernel_rfl) (by kernel_rfl)
  simp only [List.take_succ_cons, List.take_zero, List.drop_succ_cons, List.drop_zero]
  apply lg_load 22 (.tmp 3) rfl w.heap.size 0 ca _ h1a.rng h1a.lt Tryd.underlying22 rfl hsa rfl rfl
  simp only [Act.put, List.setIfInBounds_toArray, List.set_cons_succ, List.set_cons_zero]
  apply lg_call (fun v => IsW v (leN xs)) 57 #[.agg ca.toArray] rfl (by intro W; go_simp) (fun W => HNA.out W)
  intro v1 hv1
  simp only [Act.put, List.setIfInBounds_toArray, List.set_cons_succ, List.set_cons_zero]
  apply lg_load 22 (.tmp 4) rfl (w.heap.size + 1) 0 cb _ h1b.rng h1b.lt Tryd.underlying22 rfl hsb rfl rfl
  simp only [Act.put, List.setIfInBounds_toArray, List.set_cons_succ, List.set_cons_zero]
  apply lg_call (fun v => IsW v (leN ys)) 57 #[.agg cb.toArray] rfl (by intro W; go_simp) (fun W => HNB.out W)
  intro v2 hv2
  simp only [Act.put, List.setIfInBounds_toArray, List.set_cons_succ, List.set_cons_zero]
  apply lg_alloc (.cells #[.int .u64 0, .int .u64 0, .int .u64 0, .int .u64 0] 79) (.cells #[.int .u64 0, .int .u64 0, .int .u64 0, .int .u64 0] 79) rfl (by intro W; go_simp) (fun W => heap_alloc_new W _)
  intro gx hgx
  simp only [Act.put, List.setIfInBounds_toArray, List.set_cons_succ, List.set_cons_zero]
  apply lg_alloc (.cells #[.int .u64 0, .int .u64 0, .int .u64 0, .int .u64 0] 79) (.cells #[.int .u64 0, .int .u64 0, .int .u64 0, .int .u64 0] 79) rfl (by intro W; go_simp) (fun W => heap_alloc_new W _)
  intro gy hgy
  simp only [Act.put, List.setIfInBounds_toArray, List.set_cons_succ, List.set_cons_zero]
  refine lg_nil ?_
  intro w5 hC5
  have hne : gx ≠ gy := by
    intro h
    subst h
    simp [upd] at hgy
  have bx : Blk w5 gx 79 (nu [0, 0, 0, 0]) := (hC5.2 gx (.cells #[.int .u64 0, .int .u64 0, .int .u64 0, .int .u64 0] 79) (by simp [upd, hne])).2
  have lx : w1.heap.size ≤ gx := (hC5.2 gx (.cells #[.int .u64 0, .int .u64 0, .int .u64 0, .int .u64 0] 79) (by simp [upd, hne])).1
  have by_ : Blk w5 gy 79 (nu [0, 0, 0, 0]) := (hC5.2 gy (.cells #[.int .u64 0, .int .u64 0, .int .u64 0, .int .u64 0] 79) (by simp [upd])).2
  have ly : w1.heap.size ≤ gy := (hC5.2 gy (.cells #[.int .u64 0, .int .u64 0, .int .u64 0, .int .u64 0] 79) (by simp [upd])).1
  obtain ⟨a0, a1, a2, a3, rfl, la0, la1, la2, la3, vala⟩ := hv1
  obtain ⟨b0, b1, b2, b3, rfl, lb0, lb1, lb2, lb3, valb⟩ := hv2
  unfold V4
  have hgw := hb1.size
  have bx2 := bx.setAll (vs := nu [a0, a1, a2, a3]) rfl
  have by2 := by_.setFar hne 0 (nu [a0, a1, a2, a3])
  have by3 := by2.setAll (vs := nu [b0, b1, b2, b3]) rfl
  have bx3 := bx2.setFar (g2 := gy) (fun h => hne h.symm) 0 (nu [b0, b1, b2, b3])
  have hb2 := blw_cells (show w.heap.size ≤ gy by omega) (nu [b0, b1, b2, b3]) 0 _ (blw_cells (show w.heap.size ≤ gx by omega) (nu [a0, a1, a2, a3]) 0 _ (hb1.then_ hC5.1))
  have hk2 := blw_cells (show w1.heap.size ≤ gy by omega) (nu [b0, b1, b2, b3]) 0 _ (blw_cells (show w1.heap.size ≤ gx by omega) (nu [a0, a1, a2, a3]) 0 _ hC5.1)
  refine wpList_store_mid rfl 79 _ _ rfl gx 0 (nu [a0, a1, a2, a3]).toArray rfl rfl (bx.there rfl) size4 (oneNu _) ?_
  refine wpList_store_mid rfl 79 _ _ rfl gy 0 (nu [b0, b1, b2, b3]).toArray rfl rfl (by2.there rfl) size4 (oneNu _) ?_
  simp only [Act.put]
  change wpList _ _ _ _ _ ((w5.setCells gx 0 (nu [a0, a1, a2, a3])).setCells gy 0 (nu [b0, b1, b2, b3]))
  generalize (w5.setCells gx 0 (nu [a0, a1, a2, a3])).setCells gy 0 (nu [b0, b1, b2, b3]) = W2 at *
  have h2c := h1c.later hk2
  have h2r := h1r.later hk2
  have HT2 := Lib.hid (hT2.later hk2)
  have hlx := bx3.lt
  have hly := by3.lt
  have hW2 : w1.heap.size ≤ W2.heap.size := hk2.size
  have hw01 : w0.heap.size < w1.heap.size := h1r.lt
  have H2 := Lib.hid (And.intro bx3 (And.intro by3 (And.intro h2c (And.intro h2r hb2))))
  have HVA := Lib.hid (And.intro vala (And.intro la0 (And.intro la1 (And.intro la2 la3))))
  have HVB := Lib.hid (And.intro valb (And.intro lb0 (And.intro lb1 (And.intro lb2 lb3))))
  clear bx by_ bx2 by2 by3 bx3 hb2 hk2 hC5 h1a h1b h1c h1r hb1 hgx hgy h2c h2r vala valb la0 la1 la2 la3 lb0 lb1 lb2 lb3 HNA HNB hsa hsb HC1 HR1 hT2
  have hz8 : Blk (W2.alloc (.cells #[.int .u64 0, .int .u64 0, .int .u64 0, .int .u64 0, .int .u64 0, .int .u64 0, .int .u64 0, .int .u64 0] 85)) W2.heap.size 85 (nu (List.replicate 8 0)) := Blk.new W2 (nu (List.replicate 8 0)) _
  have HZ8 := Lib.hid hz8
  have HA8 := Lib.hid (show Below W2.heap.size W2 (W2.alloc (.cells #[.int .u64 0, .int .u64 0, .int .u64 0, .int .u64 0, .int .u64 0, .int .u64 0, .int .u64 0, .int .u64 0] 85)) from Below.alloc (Below.refl _ _) (Nat.le_refl _) _)
  have HRC := Lib.hid ((H2.out.2.2.1.later HA8.out).rng)
  have HSC := Lib.hid hsc
  clear hz8 hsc
  go_wp2_with (refine wpList_load_mid rfl 22 _ rfl (w.heap.size + 1 + 1) 0 rfl cc _ HRC.out Tryd.underlying22 rfl HSC.out ?_)
  refine (HNC.out _).mono ?_
  rintro e w3 ⟨v3, rfl, hv3, b3⟩
  obtain ⟨c0, c1, c2, c3, rfl, lc0, lc1, lc2, lc3, valc⟩ := hv3
  unfold V4
  obtain ⟨gs, hgs⟩ : ∃ g, W2.heap.size = g := ⟨_, rfl⟩
  have h3x := (H2.out.1.later HA8.out).later b3
  have h3y := (H2.out.2.1.later HA8.out).later b3
  have h3r := (H2.out.2.2.2.1.later HA8.out).later b3
  have h3b := (H2.out.2.2.2.2.then_ HA8.out).then_ b3
  have h3s := HZ8.out.later b3
  have hT3 := (HT2.out.later HA8.out).later b3
  have hs3 : W2.heap.size < w3.heap.size := h3s.lt
  rw [hgs] at h3s hs3 hlx hly hW2 ⊢
  have H3 := Lib.hid (And.intro h3x (And.intro h3y (And.intro h3s (And.intro h3r (And.intro h3b hT3)))))
  have HVC := Lib.hid (And.intro valc (And.intro lc0 (And.intro lc1 (And.intro lc2 lc3))))
  clear h3x h3y h3r h3b h3s hT3 b3 HRC HZ8 HA8 H2 HT2 valc lc0 lc1 lc2 lc3
  go_wp2_with fail
  apply wp_region_g 2 (by kernel_rfl) (by kernel_rfl)
  simp only [List.take_succ_cons, List.take_zero, List.drop_succ_cons, List.drop_zero]
  apply lg_pure (.slice (some ⟨gs, 0, none⟩) 8 8) rfl (by intro W; go_simp)
  simp only [Act.put, List.setIfInBounds_toArray, List.set_cons_succ, List.set_cons_zero]
  apply lg_pure (.slice (some ⟨w3.heap.size, 0, none⟩) 4 4) rfl (by intro W; go_simp)
  simp only [Act.put, List.setIfInBounds_toArray, List.set_cons_succ, List.set_cons_zero]
  refine lg_nil ?_
  intro w4 hC4
  have hbl : Below w3.heap.size w3 w4 := (Below.alloc (Below.refl w3.heap.size w3) (Nat.le_refl _) _).step hC4.1 (by simp)
  have hlow : Blk w4 w3.heap.size 79 (nu [c0, c1, c2, c3]) := (Blk.new w3 (nu [c0, c1, c2, c3]) 79).later hC4.1
  obtain ⟨h3x, h3y, h3s, h3r, h3b, hT3⟩ := H3.out
  have h4s := h3s.later hbl
  refine wpList_copy_own rfl (.tmp 23) (.tmp 24) 86 86 rfl 23 Tryd.underlying86 (by kernel_rfl) gs 0 8 8 ⟨w3.heap.size, 0, none⟩ 4 4 rfl rfl _ 85 h4s (nu [c0, c1, c2, c3]) rfl ?_ (by simp [nu]) ?_ ?_
  · intro j v hj
    have : (⟨w3.heap.size, 0, none⟩ : Addr).add j = ⟨w3.heap.size, j, none⟩ := by unfold Addr.add; split <;> simp_all
    rw [this]; exact hlow.cell hj
  · intro v hv
    obtain ⟨y, _, rfl⟩ := List.mem_map.1 hv
    rfl
  simp only [Act.put, List.setIfInBounds_toArray, List.set_cons_succ, List.set_cons_zero]
  have h5s : Blk (w4.setRow gs (nu [c0, c1, c2, c3, 0, 0, 0, 0]).toArray) gs 85 (nu [c0, c1, c2, c3, 0, 0, 0, 0]) := setRow_heap w4 gs _ _ _ _ h4s
  have hgn : gs ≠ gx ∧ gs ≠ gy ∧ gs ≠ w.heap.size + 1 + 1 + 1 ∧ gx ≠ gy ∧ w.heap.size ≤ gs := ⟨by omega, by omega, by omega, hne, by omega⟩
  have H5 : Hid (MuS w gx gy gs [a0, a1, a2, a3] [b0, b1, b2, b3] [c0, c1, c2, c3, 0, 0, 0, 0] (w4.setRow gs (nu [c0, c1, c2, c3, 0, 0, 0, 0]).toArray)) :=
    Lib.hid ⟨(setRow_other _ _ _ _ (fun h => hgn.1 h.symm)).trans (h3x.later hbl), (setRow_other _ _ _ _ (fun h => hgn.2.1 h.symm)).trans (h3y.later hbl), h5s, (setRow_other _ _ _ _ (fun h => hgn.2.2.1 h.symm)).trans (hsz0 ▸ (h3r.later hbl)), below_setRow (h3b.then_ hbl) hgn.2.2.2.2 _⟩
  have HGN := Lib.hid hgn
  change wpList _ _ _ _ _ (w4.setRow gs (nu [c0, c1, c2, c3, 0, 0, 0, 0]).toArray)
  generalize w4.setRow gs (nu [c0, c1, c2, c3, 0, 0, 0, 0]).toArray = W5 at *
  clear hC4 hbl hlow h3x h3y h3s h3r h3b hT3 h4s h5s hgn H3 hsz0 hgw lx ly hlx hly hW2 hw01 hs3 hgs hne
  obtain ⟨ma, hma⟩ : ∃ l, [a0, a1, a2, a3] = l := ⟨_, rfl⟩
  obtain ⟨mb, hmb⟩ : ∃ l, [b0, b1, b2, b3] = l := ⟨_, rfl⟩
  have HMA : Hid (ma.length = 4 ∧ (∀ x ∈ ma, x < 2 ^ 64) ∧ valW ma = leN xs) := Lib.hid (by
    rw [← hma]
    obtain ⟨q0, q1, q2, q3, q4⟩ := HVA.out
    refine ⟨rfl, ?_, ?_⟩
    · intro x hx; simp at hx; rcases hx with rfl | rfl | rfl | rfl <;> assumption
    · simp only [valW]; omega)
  have HMB : Hid (mb.length = 4 ∧ (∀ x ∈ mb, x < 2 ^ 64) ∧ valW mb = leN ys) := Lib.hid (by
    rw [← hmb]
    obtain ⟨q0, q1, q2, q3, q4⟩ := HVB.out
    refine ⟨rfl, ?_, ?_⟩
    · intro x hx; simp at hx; rcases hx with rfl | rfl | rfl | rfl <;> assumption
    · simp only [valW]; omega)
  have HM0 : Hid (RowM (leN zs) 0 0 [c0, c1, c2, c3, 0, 0, 0, 0]) := Lib.hid (by
    obtain ⟨q0, q1, q2, q3, q4⟩ := HVC.out
    refine ⟨rfl, ?_, by decide, ?_⟩
    · intro x hx; simp at hx; omega
    · simp only [valW]; omega)
  obtain ⟨v1, hv1⟩ : ∃ v : Value, .agg #[.int .u64 (a0 : Int), .int .u64 (a1 : Int), .int .u64 (a2 : Int), .int .u64 (a3 : Int)] = v := ⟨_, rfl⟩
  obtain ⟨v2, hv2⟩ : ∃ v : Value, .agg #[.int .u64 (b0 : Int), .int .u64 (b1 : Int), .int .u64 (b2 : Int), .int .u64 (b3 : Int)] = v := ⟨_, rfl⟩
  obtain ⟨v3, hv3⟩ : ∃ v : Value, .agg #[.int .u64 (c0 : Int), .int .u64 (c1 : Int), .int .u64 (c2 : Int), .int .u64 (c3 : Int)] = v := ⟨_, rfl⟩
  rw [hma, hmb] at H5
  go_wp2_with fail
  rw [hv1, hv2, hv3]
  clear hv1 hv2 hv3 hma hmb HVA HVB HVC
  go_loopw [26] (fun iv wr => ∃ (k : Nat) (ss : List Nat), k ≤ 4 ∧ iv = .int .i64 (k : Int) ∧ RowM (leN zs + valW (ma.take k) * leN ys) 0 0 ss ∧ MuS w gx gy gs ma mb ss wr) (fun iv _ => 4 - (intOf iv).toNat)
  case atStart => exact ⟨0, _, by omega, rfl, by simpa [valW] using HM0.out, H5.out⟩
  case round =>
    clear H5 HM0
    obtain ⟨k, ss, hk, rfl, hrow, hmu⟩ := hrel
    have HK := Lib.hid (And.intro hrow hmu)
    clear hrow hmu
    by_cases hk4 : k < 4
    · have hb4 : decide ((k : Int) < 4) = true := by simp; omega
      obtain ⟨x, hx⟩ : ∃ x, ma[k]? = some x := ⟨_, List.getElem?_eq_getElem (by rw [HMA.out.1]; exact hk4)⟩
      have HX := Lib.hid hx
      have HX2 := Lib.hid (HMA.out.2.1 x (List.mem_of_getElem? hx))
      clear hx
      go_wp2_with fail
      go_loopw [12, 29] (fun uv jv wi => ∃ (j u : Nat) (ts : List Nat), j ≤ 4 ∧ jv = .int .i64 (j : Int) ∧ uv = .int .u64 (u : Int) ∧ RowM (leN zs + valW (ma.take k) * leN ys + 2 ^ (64 * k) * (x * valW (mb.take j))) (k + j) u ts ∧ MuS w gx gy gs ma mb ts wi) (fun _ jv _ => 4 - (intOf jv).toNat)
      case atStart => exact ⟨0, 0, ss, by omega, rfl, rfl, by obtain ⟨r1, r2, r3, r4⟩ := HK.out.1; exact ⟨r1, r2, by decide, by simp [valW] at r4 ⊢; exact r4⟩, HK.out.2⟩
      case round =>
        obtain ⟨j, u, ts, hj, rfl, rfl, hrow, hmu⟩ := hrel
        by_cases hj4 : j < 4
        · have hbj : decide ((j : Int) < 4) = true := by simp; omega
          obtain ⟨y, hy⟩ : ∃ y, mb[j]? = some y := ⟨_, List.getElem?_eq_getElem (by rw [HMB.out.1]; exact hj4)⟩
          obtain ⟨s, hs, hsl⟩ := hrow.at (q := k + j) (by omega)
          have hyl := HMB.out.2.1 y (List.mem_of_getElem? hy)
          have hul := hrow.2.2.1
          have hvt := valW_take mb j y hy
          have cx := hmu.1.cell (nu_at HX.out)
          have cy := hmu.2.1.cell (nu_at hy)
          have cs := hmu.2.2.1.cell (nu_at hs)
          have fs := hmu.2.2.1.frozen (k + j)
          have HR := Lib.hid (And.intro hrow hs)
          have HMU := Lib.hid hmu
          have HC := Lib.hid (fun W => mulAdd_calls x y s u HX2.out hyl hsl hul W)
          obtain ⟨p, hp⟩ : ∃ p, k + j = p := ⟨_, rfl⟩
          have e1 : IntKind.i64.wrap ((k : Int) + (j : Int)) = (p : Int) := (IntWalk.i64_in _ (by omega)).trans (by omega)
          rw [hp] at cs fs HR
          have i1 : (0 : Int) ≤ (k : Int) ∧ (k : Int) < 4 := by omega
          have i2 : (0 : Int) ≤ (j : Int) ∧ (j : Int) < 4 := by omega
          have i3 : (0 : Int) ≤ (p : Int) ∧ (p : Int) < 8 := by omega
          clear hrow hmu hs hy hyl hsl hul
          go_wp2_with fail
          have n1 := HGN.out.1
          have n2 : gx ≠ gs := fun h => HGN.out.1 h.symm
          have n3 := HGN.out.2.1
          have n4 : gy ≠ gs := fun h => HGN.out.2.1 h.symm
          go_region_with (first | (go_at_call 58; (with_reducible refine (HC.out _).mono ?_); rintro e wv ⟨lo, hi, rfl, hlo, hhi, he, rfl⟩))
          all_goals
            (have hst := HR.out.1.step HR.out.2 hlo hhi he
             have hst2 : RowM (leN zs + valW (ma.take k) * leN ys + 2 ^ (64 * k) * (x * valW (mb.take (j + 1)))) (k + (j + 1)) hi (ts.set p lo) := by
               rw [hvt, Nat.mul_add x, Nat.mul_add, powmul, hp, ← Nat.add_assoc, show k + (j + 1) = p + 1 by omega]; exact hst
             have HST := Lib.hid (And.intro hst2 ((HMU.out.drewN 1).set_ HGN.out p lo))
             clear hst hst2 hlo hhi he cx cy cs fs hvt
             go_wp2_with fail
             refine ⟨?_, by simp [intOf]; omega⟩
             repeat apply Exists.intro
             refine ⟨⟨j + 1, hi, ts.set p lo, by omega, by go_num, rfl, HST.out.1, HST.out.2⟩, ?_⟩
             rfl)
        · obtain rfl : j = 4 := by omega
          have hbj : decide (((4 : Nat) : Int) < 4) = false := by simp
          have hrow2 : RowM (leN zs + valW (ma.take (k + 1)) * leN ys) (k + 4) u ts := by
            have h4 : valW (mb.take 4) = leN ys := by rw [List.take_of_length_le (by rw [HMB.out.1]; exact Nat.le_refl _)]; exact HMB.out.2.2
            rw [h4] at hrow
            rw [valW_take ma k x HX.out, Nat.add_mul, Nat.mul_assoc, ← Nat.add_assoc]
            exact hrow
          have HR := Lib.hid (And.intro hrow2 hmu)
          clear hrow hrow2 hmu
          go_wp2_with fail
          go_loopw [12, 14] (fun uv jv wi => ∃ (q u : Nat) (ts : List Nat), q ≤ 8 ∧ jv = .int .i64 (q : Int) ∧ uv = .int .u64 (u : Int) ∧ RowM (leN zs + valW (ma.take (k + 1)) * leN ys) q u ts ∧ MuS w gx gy gs ma mb ts wi) (fun _ jv _ => 8 - (intOf jv).toNat)
          case atStart => exact ⟨k + 4, u, ts, by omega, by go_num, rfl, HR.out.1, HR.out.2⟩
          case round =>
            clear HR
            obtain ⟨q, u, ts, hq, rfl, rfl, hrow, hmu⟩ := hrel
            by_cases hq8 : q < 8
            · have hbq : decide ((q : Int) < 8) = true := by simp; omega
              obtain ⟨s, hs, hsl⟩ := hrow.at hq8
              have hul := hrow.2.2.1
              have cs := hmu.2.2.1.cell (nu_at hs)
              have fs := hmu.2.2.1.frozen q
              have i3 : (0 : Int) ≤ (q : Int) ∧ (q : Int) < 8 := by omega
              have g1 : ∀ W : World, (callFunc 59 #[.int .u64 (s : Int), .int .u64 (u : Int), .int .u64 0]).run Tryd.prog W = _ := fun W => add64_run s u 0 (by omega) W
              obtain ⟨lo, hlo⟩ : ∃ z, (s + u + 0) % 18446744073709551616 = z := ⟨_, rfl⟩
              obtain ⟨hi, hhi⟩ : ∃ z, (s + u + 0) / 18446744073709551616 = z := ⟨_, rfl⟩
              rw [hlo, hhi] at g1
              have hst := hrow.step (q := 0) (lo := lo) (hi := hi) hs (by omega) (by omega) (by omega)
              rw [Nat.mul_zero, Nat.add_zero] at hst
              have HST := Lib.hid (And.intro hst (hmu.set_ HGN.out q lo))
              clear hst hlo hhi hrow hmu hs hsl hul
              go_wp2_with fail
              exact ⟨⟨q + 1, hi, ts.set q lo, by omega, by go_num, rfl, HST.out.1, HST.out.2⟩, by simp [intOf]; omega⟩
            · obtain rfl : q = 8 := by omega
              have hV : leN zs + valW (ma.take (k + 1)) * leN ys < 256 ^ 64 := by
                have b1 := leN_lt zs
                have b2 := leN_lt ys
                have b3 := leN_lt xs
                rw [hc] at b1
                rw [hb] at b2
                rw [ha] at b3
                have b4 : valW (ma.take (k + 1)) ≤ leN xs := by rw [← HMA.out.2.2]; exact valW_take_le ma (k + 1)
                rw [Nat.add_comm]
                exact prod_lt _ _ _ (Nat.lt_of_le_of_lt b4 b3) b2 b1
              obtain rfl := hrow.over hV
              have HE := Lib.hid (And.intro hrow hmu)
              clear hrow hmu hV
              go_wp2_with fail
              exact ⟨⟨k + 1, ts, by omega, by go_num, by obtain ⟨r1, r2, r3, r4⟩ := HE.out.1; exact ⟨r1, r2, r3, by rw [show 2 ^ (64 * 8) = 256 ^ 64 by decide +kernel, Nat.mul_zero] at r4; rw [Nat.mul_zero]; exact r4⟩, HE.out.2⟩, by simp [intOf]; omega⟩
    · obtain rfl : k = 4 := by omega
      obtain ⟨hrow, hmu⟩ := HK.out
      have hV : valW ss = leN xs * leN ys + leN zs := by
        have h := hrow.2.2.2
        rw [List.take_of_length_le (by rw [HMA.out.1]; exact Nat.le_refl _), HMA.out.2.2] at h
        simp at h; omega
      have HV := Lib.hid (And.intro hV (And.intro hrow.1 hrow.2.1))
      have hz64 : Blk (wr.alloc (.cells #[.int .u8 0, .int .u8 0, .int .u8 0, .int .u8 0, .int .u8 0, .int .u8 0, .int .u8 0, .int .u8 0, .int .u8 0, .int .u8 0, .int .u8 0, .int .u8 0, .int .u8 0, .int .u8 0, .int .u8 0, .int .u8 0, .int .u8 0, .int .u8 0, .int .u8 0, .int .u8 0, .int .u8 0, .int .u8 0, .int .u8 0, .int .u8 0, .int .u8 0, .int .u8 0, .int .u8 0, .int .u8 0, .int .u8 0, .int .u8 0, .int .u8 0, .int .u8 0, .int .u8 0, .int .u8 0, .int .u8 0, .int .u8 0, .int .u8 0, .int .u8 0, .int .u8 0, .int .u8 0, .int .u8 0, .int .u8 0, .int .u8 0, .int .u8 0, .int .u8 0, .int .u8 0, .int .u8 0, .int .u8 0, .int .u8 0, .int .u8 0, .int .u8 0, .int .u8 0, .int .u8 0, .int .u8 0, .int .u8 0, .int .u8 0, .int .u8 0, .int .u8 0, .int .u8 0, .int .u8 0, .int .u8 0, .int .u8 0, .int .u8 0, .int .u8 0] 90)) wr.heap.size 90 (u8b (outG (valW ss) 0)) := by rw [outG_zero]; exact Blk.new wr (u8b (List.replicate 64 0)) _
      have hal := Below.alloc (Below.refl wr.heap.size wr) (Nat.le_refl _) (.cells #[.int .u8 0, .int .u8 0, .int .u8 0, .int .u8 0, .int .u8 0, .int .u8 0, .int .u8 0, .int .u8 0, .int .u8 0, .int .u8 0, .int .u8 0, .int .u8 0, .int .u8 0, .int .u8 0, .int .u8 0, .int .u8 0, .int .u8 0, .int .u8 0, .int .u8 0, .int .u8 0, .int .u8 0, .int .u8 0, .int .u8 0, .int .u8 0, .int .u8 0, .int .u8 0, .int .u8 0, .int .u8 0, .int .u8 0, .int .u8 0, .int .u8 0, .int .u8 0, .int .u8 0, .int .u8 0, .int .u8 0, .int .u8 0, .int .u8 0, .int .u8 0, .int .u8 0, .int .u8 0, .int .u8 0, .int .u8 0, .int .u8 0, .int .u8 0, .int .u8 0, .int .u8 0, .int .u8 0, .int .u8 0, .int .u8 0, .int .u8 0, .int .u8 0, .int .u8 0, .int .u8 0, .int .u8 0, .int .u8 0, .int .u8 0, .int .u8 0, .int .u8 0, .int .u8 0, .int .u8 0, .int .u8 0, .int .u8 0, .int .u8 0, .int .u8 0] 90)
      have hs1 := (hmu.2.2.1).later hal
      have hr1 := (hmu.2.2.2.1).later hal
      have hlr := hmu.2.2.2.1.lt
      have hls := hmu.2.2.1.lt
      have hb1 := hmu.2.2.2.2.then_ hal
      have H6 : Hid (AlS w wr.heap.size gs (valW ss) ss 0 _) := Lib.hid (And.intro hz64 (And.intro hs1 (And.intro hr1 hb1)))
      have hwg := hmu.2.2.2.2.size
      have hb4 : decide (((4 : Nat) : Int) < 4) = false := by simp
      clear HK hrow hmu hV hz64 hal hs1 hr1 hb1
      go_wp2_with fail
      obtain ⟨ga, hga⟩ : ∃ g, wr.heap.size = g := ⟨_, rfl⟩
      rw [hga] at H6 hlr hls hwg ⊢
      have HN : Hid (ga ≠ gs ∧ ga ≠ w.heap.size + 1 + 1 + 1 ∧ w.heap.size ≤ ga) := Lib.hid ⟨by omega, by omega, hwg⟩
      clear hga hlr hls hwg
      obtain ⟨N, hN⟩ : ∃ n, valW ss = n := ⟨_, rfl⟩
      rw [hN] at H6
      have HVN := Lib.hid hN
      clear hN
      go_loopw [70] (fun iv wi => ∃ q : Nat, q ≤ 64 ∧ iv = .int .i64 (q : Int) ∧ AlS w ga gs N ss q wi) (fun iv _ => 64 - (intOf iv).toNat)
      case atStart => exact ⟨0, by omega, rfl, H6.out⟩
      case round =>
        clear H6
        obtain ⟨q, hq, rfl, hal⟩ := hrel
        by_cases hq64 : q < 64
        · have hb1 : decide ((q : Int) < 64) = true := by simp; omega
          have hk8 : (q : Int) / 8 = ((q / 8 : Nat) : Int) := by omega
          obtain ⟨j, hj⟩ : ∃ j, q / 8 = j := ⟨_, rfl⟩
          rw [hj] at hk8
          have hjl : j < 8 := by omega
          obtain ⟨x, hx⟩ : ∃ x, ss[j]? = some x := ⟨_, List.getElem?_eq_getElem (by rw [HV.out.2.1]; exact hjl)⟩
          have hcell := hal.2.1.cell (nu_at hx)
          have hbyte := byte_word8 ss q j x HV.out.2.2 hj hx
          rw [HVN.out] at hbyte
          have hlen : q < (u8b (outG N q)).length := by rw [u8b_len, outG_len N q hq]; exact hq64
          obtain ⟨ov, hov⟩ : ∃ v, (u8b (outG N q))[q]? = some v := ⟨_, List.getElem?_eq_getElem hlen⟩
          have hold := hal.1.cell hov
          have hfr := hal.1.frozen q
          have HB2 := Lib.hid (hal.step hq64 HN.out)
          obtain ⟨y, hy⟩ : ∃ y, ((byteF N q).toNat : Int) = y := ⟨_, rfl⟩
          rw [hy] at hbyte HB2
          obtain ⟨r, hr⟩ : ∃ r, q % 8 = r := ⟨_, rfl⟩
          rw [hr] at hbyte
          have hr8 : (q : Int) % 8 = (r : Int) := by omega
          have hrl : r < 8 := by omega
          have hcv : IntKind.u8.wrap ((x : Int) / 2 ^ (8 * r)) = y := by
            rw [← hbyte, IntKind.wrap_u8, Int.natCast_emod, Int.natCast_ediv, Int.natCast_pow]; rfl
          clear hal hx hbyte hlen hov hy hj hr
          go_wp2_with fail
          exact ⟨⟨q + 1, by omega, by go_num, HB2.out⟩, by simp [intOf]; omega⟩
        · obtain rfl : q = 64 := by omega
          have hb1 : decide (((64 : Nat) : Int) < 64) = false := by simp
          have HA := Lib.hid hal
          clear hal
          go_wp2_with fail
          have hN2 : N = leN xs * leN ys + leN zs := by rw [← HVN.out]; exact HV.out.1
          have hNl : leN (leB 64 N) = N := by
            rw [leN_leB, Nat.mod_eq_of_lt]
            have b1 := leN_lt xs
            have b2 := leN_lt ys
            have b3 := leN_lt zs
            rw [ha] at b1
            rw [hb] at b2
            rw [hc] at b3
            rw [hN2]; exact prod_lt _ _ _ b1 b2 b3
          obtain ⟨hal, _, har, hab⟩ := HA.out
          rw [outG_full] at hal
          refine (rest_calls (some ⟨ga, 0, none⟩) 64 64 (leB 64 N) (Lib.hid (leB_len _ _).symm) (by decide) wr (HTT.out.later hab) (rb_blk hal)).mono ?_
          rintro e w7 ⟨rfl, b7⟩
          rw [hNl, hN2]
          obtain ⟨R, hR⟩ : ∃ r, (leN xs * leN ys + leN zs) % LO = r := ⟨_, rfl⟩
          rw [hR]
          have hr7 := har.later b7
          have hb7 := hab.then_ b7
          have hl32 := leB_len 32 R
          have HTH := Lib.hid (hr7.there (n := (u8b (leB 32 R)).toArray.size) (by simp [u8b_len, leB_len]))
          have hz2 := hr7.setAll (vs := u8b (leB 32 R)) (by simp [u8b_len, leB_len])
          have HZ2 := Lib.hid (Blk.load hz2 22 Tryd.underlying22 rfl (size32u _ (leB_len _ _)))
          have HB2 := Lib.hid (blw_cells (show w.heap.size ≤ w.heap.size + 1 + 1 + 1 by omega) (u8b (leB 32 R)) 0 _ hb7)
          have HO : Hid ((u8b (leB 32 R)).toArray.all (·.oneCell') = true) := Lib.hid (one8b _)
          have HG2 : Hid ((Tryd.prog.info? 22).map (·.size) = some (u8b (leB 32 R)).toArray.size) := Lib.hid (by simpa using size32u _ (leB_len 32 R))
          unfold A32
          obtain ⟨dv, hdv⟩ : ∃ d, u8b (leB 32 R) = d := ⟨_, rfl⟩
          rw [hdv] at HTH HZ2 HB2 HO HG2 ⊢
          have HDV := Lib.hid hdv
          clear hal har hab hr7 hb7 hz2 hdv hNl hN2 b7 HA
          go_wp2_with (refine wpList_store_mid rfl 22 _ _ rfl (w.heap.size + 1 + 1 + 1) 0 dv.toArray rfl rfl HTH.out HG2.out HO.out ?_)
          exact bodyPost_ret (v := .agg dv.toArray) (res_cell rfl _ _ _ _ rfl HZ2.out) rfl ⟨by unfold A32; rw [hR, HDV.out], HB2.out⟩
end Go.Proofs.YtoligamlafgaoaaDoor.Sc
