/- Layer 5: numbers of four words: out of bytes, and back; differences, sums. -/
import Derived.Test.YtoligamlafgaoaaDoorBk
import Derived.Test.YtoligamlafgaoaaDoorShelf
import Derived.Test.YtoligamlafgaoaaDoorLg
import Derived.Test.YtoligamlafgaoaaDoorLh
namespace Go.Proofs.YtoligamlafgaoaaDoor.Sc
open Go.Proofs.YtoligamlafgaoaaDoor
open Go.ChangeShapes Go.WideShapes Go.ChangeAt Go.RowKit Go.IntWalk
set_option linter.unusedVariables false

/-- A number's bytes, the lowest first. -/
def leN : List UInt8 → Nat
  | [] => 0
  | c :: t => c.toNat + 256 * leN t
def u8b (bs : List UInt8) : List Value := bs.map fun c => Value.int .u8 (c.toNat : Int)
def A32 (bs : List UInt8) : Value := .agg (u8b bs).toArray
def nu (ls : List Nat) : List Value := ls.map fun (n : Nat) => Value.int .u64 (n : Int)
theorem nu_at {ls : List Nat} {k n : Nat} (h : ls[k]? = some n) : (nu ls)[k]? = some (.int .u64 (n : Int)) := by simp [nu, h]
theorem nu_set (ls : List Nat) (k n : Nat) : (nu ls).set k (.int .u64 (n : Int)) = nu (ls.set k n) := by simp [nu, List.map_set]
theorem u8b_at {bs : List UInt8} {k : Nat} {c : UInt8} (h : bs[k]? = some c) : (u8b bs)[k]? = some (.int .u8 (c.toNat : Int)) := by simp [u8b, h]
theorem u8b_len (bs : List UInt8) : (u8b bs).length = bs.length := by simp [u8b]
theorem u8b_set (bs : List UInt8) (k : Nat) (c : UInt8) : (u8b bs).set k (.int .u8 (c.toNat : Int)) = u8b (bs.set k c) := by simp [u8b, List.map_set]
theorem one8b (bs : List UInt8) : (u8b bs).toArray.all (·.oneCell') = true := by
  apply all_oneCell_toArray
  intro v hv
  obtain ⟨y, _, rfl⟩ := List.mem_map.1 hv
  rfl
theorem oneNu (ls : List Nat) : (nu ls).toArray.all (·.oneCell') = true := by
  apply all_oneCell_toArray
  intro v hv
  obtain ⟨y, _, rfl⟩ := List.mem_map.1 hv
  rfl
theorem idx32 (cs : List Value) (k : Nat) (hk : k < 32) (v : Value) (hv : cs[k]? = some v) (W : World) :
    (Instr.index 22 (.agg cs.toArray) (.int .i64 (k : Int))).run Tryd.prog W = .ok v W := by
  have h32 : 0 ≤ (k : Int) ∧ (k : Int) < (32 : Nat) := by omega
  simp [Instr.index, run_underlying Tryd.underlying22, asIntOf, go_sem, hv, hk]
theorem size32 : (Tryd.prog.info? 22).map (·.size) = some 32 := by kernel_rfl
theorem size32u (bs : List UInt8) (h : bs.length = 32) : (Tryd.prog.info? 22).map (·.size) = some (u8b bs).length := by rw [u8b_len, h]; exact size32
theorem size4 : (Tryd.prog.info? 79).map (·.size) = some 4 := by kernel_rfl
def wordsG (bs : List UInt8) : List Nat := [leN (bs.take 8), leN ((bs.drop 8).take 8), leN ((bs.drop 16).take 8), leN ((bs.drop 24).take 8)]
theorem leN_app (a : List UInt8) : ∀ b, leN (a ++ b) = leN a + 256 ^ a.length * leN b := by
  intro b
  induction a with
  | nil => simp [leN]
  | cons c a ih => simp only [List.cons_append, leN, ih, List.length_cons, Nat.pow_succ]; rw [Nat.mul_add, Nat.mul_comm (256 ^ a.length) 256, Nat.mul_assoc]; omega
theorem leN_lt : ∀ l : List UInt8, leN l < 256 ^ l.length
  | [] => by simp [leN]
  | c :: l => by
    have h1 := leN_lt l
    have h2 := c.toNat_lt
    rw [List.length_cons, Nat.pow_succ]
    unfold leN
    omega
def segN (bs : List UInt8) (a m : Nat) : Nat := leN ((bs.drop a).take m)
theorem segN_lt (bs : List UInt8) (a m : Nat) : segN bs a m < 256 ^ m := by
  refine Nat.lt_of_lt_of_le (leN_lt _) (Nat.pow_le_pow_right (by decide) ?_)
  rw [List.length_take]; omega
theorem segN_step (bs : List UInt8) (a m : Nat) (c : UInt8) (h : bs[a + m]? = some c) : segN bs a (m + 1) = segN bs a m + c.toNat * 256 ^ m := by
  unfold segN
  rw [List.take_add_one, List.getElem?_drop, h, Option.toList_some, leN_app]
  have hl : ((bs.drop a).take m).length = m := by
    rw [List.length_take, List.length_drop]
    have := (List.getElem?_eq_some_iff.1 h).1
    omega
  rw [hl]; simp [leN, Nat.mul_comm]
theorem wordsG_take (bs : List UInt8) (k : Nat) : wordsG (bs.take k) = [segN bs 0 (min 8 k), segN bs 8 (min 8 (k - 8)), segN bs 16 (min 8 (k - 16)), segN bs 24 (min 8 (k - 24))] := by
  simp [wordsG, segN, List.drop_take, List.take_take]
/-- One byte more. -/
theorem words_step (bs : List UInt8) (k j n : Nat) (c : UInt8) (hk : k < 32) (hj : k / 8 = j) (hc : bs[k]? = some c) (hn : (wordsG (bs.take k))[j]? = some n) :
    wordsG (bs.take (k + 1)) = (wordsG (bs.take k)).set j (n + c.toNat * 2 ^ (8 * (k % 8))) ∧ n < 2 ^ (8 * (k % 8)) := by
  obtain ⟨r, hr⟩ : ∃ r, k % 8 = r := ⟨_, rfl⟩
  have hkr : k = 8 * j + r := by omega
  have hr8 : r < 8 := by omega
  have e256 : (256 : Nat) ^ r = 2 ^ (8 * r) := by rw [Nat.pow_mul]
  rw [hr, ← e256]
  rw [wordsG_take] at hn
  rw [wordsG_take, wordsG_take]
  have hj4 : j = 0 ∨ j = 1 ∨ j = 2 ∨ j = 3 := by omega
  subst hkr
  rcases hj4 with rfl | rfl | rfl | rfl
  · have e1 : min 8 (8 * 0 + r) = r := by omega
    have e2 : min 8 (8 * 0 + r + 1) = r + 1 := by omega
    have e3 : 8 * 0 + r - 8 = 0 := by omega
    have e4 : 8 * 0 + r - 16 = 0 := by omega
    have e5 : 8 * 0 + r - 24 = 0 := by omega
    have e6 : 8 * 0 + r + 1 - 8 = 0 := by omega
    have e7 : 8 * 0 + r + 1 - 16 = 0 := by omega
    have e8 : 8 * 0 + r + 1 - 24 = 0 := by omega
    rw [e1, e3, e4, e5] at hn
    rw [e1, e2, e3, e4, e5, e6, e7, e8]
    simp only [List.getElem?_cons_zero, Option.some.injEq] at hn
    subst hn
    refine ⟨?_, segN_lt _ _ _⟩
    rw [segN_step bs 0 r c (by simpa using hc)]
    rfl
  · have e1 : min 8 (8 * 1 + r - 8) = r := by omega
    have e2 : min 8 (8 * 1 + r + 1 - 8) = r + 1 := by omega
    have e3 : min 8 (8 * 1 + r) = 8 := by omega
    have e4 : 8 * 1 + r - 16 = 0 := by omega
    have e5 : 8 * 1 + r - 24 = 0 := by omega
    have e6 : min 8 (8 * 1 + r + 1) = 8 := by omega
    have e7 : 8 * 1 + r + 1 - 16 = 0 := by omega
    have e8 : 8 * 1 + r + 1 - 24 = 0 := by omega
    rw [e1, e3, e4, e5] at hn
    rw [e1, e2, e3, e4, e5, e6, e7, e8]
    simp only [List.getElem?_cons_succ, List.getElem?_cons_zero, Option.some.injEq] at hn
    subst hn
    refine ⟨?_, segN_lt _ _ _⟩
    rw [segN_step bs 8 r c (by simpa using hc)]
    rfl
  · have e1 : min 8 (8 * 2 + r - 16) = r := by omega
    have e2 : min 8 (8 * 2 + r + 1 - 16) = r + 1 := by omega
    have e3 : min 8 (8 * 2 + r) = 8 := by omega
    have e4 : min 8 (8 * 2 + r - 8) = 8 := by omega
    have e5 : 8 * 2 + r - 24 = 0 := by omega
    have e6 : min 8 (8 * 2 + r + 1) = 8 := by omega
    have e7 : min 8 (8 * 2 + r + 1 - 8) = 8 := by omega
    have e8 : 8 * 2 + r + 1 - 24 = 0 := by omega
    rw [e1, e3, e4, e5] at hn
    rw [e1, e2, e3, e4, e5, e6, e7, e8]
    simp only [List.getElem?_cons_succ, List.getElem?_cons_zero, Option.some.injEq] at hn
    subst hn
    refine ⟨?_, segN_lt _ _ _⟩
    rw [segN_step bs 16 r c (by simpa using hc)]
    rfl
  · have e1 : min 8 (8 * 3 + r - 24) = r := by omega
    have e2 : min 8 (8 * 3 + r + 1 - 24) = r + 1 := by omega
    have e3 : min 8 (8 * 3 + r) = 8 := by omega
    have e4 : min 8 (8 * 3 + r - 8) = 8 := by omega
    have e5 : min 8 (8 * 3 + r - 16) = 8 := by omega
    have e6 : min 8 (8 * 3 + r + 1) = 8 := by omega
    have e7 : min 8 (8 * 3 + r + 1 - 8) = 8 := by omega
    have e8 : min 8 (8 * 3 + r + 1 - 16) = 8 := by omega
    rw [e1, e3, e4, e5] at hn
    rw [e1, e2, e3, e4, e5, e6, e7, e8]
    simp only [List.getElem?_cons_succ, List.getElem?_cons_zero, Option.some.injEq] at hn
    subst hn
    refine ⟨?_, segN_lt _ _ _⟩
    rw [segN_step bs 24 r c (by simpa using hc)]
    rfl
theorem or_word (n c r : Nat) (hn : n < 2 ^ (8 * r)) (hc : c < 256) (hr : r < 8) : bits .or .u64 (n : Int) (IntKind.u64.wrap ((c : Int) * 2 ^ (8 * r))) = ((n + c * 2 ^ (8 * r) : Nat) : Int) := by
  have h8 : 2 ^ (8 * r) ≤ 2 ^ 56 := Nat.pow_le_pow_right (by decide) (by omega)
  have hm : c * 2 ^ (8 * r) ≤ 255 * 2 ^ 56 := Nat.mul_le_mul (by omega) h8
  have e : (c : Int) * 2 ^ (8 * r) = ((c * 2 ^ (8 * r) : Nat) : Int) := by rw [Int.natCast_mul, Int.natCast_pow]; rfl
  rw [e, wraps_u64 _ (by omega) (by omega), (bits_nat .u64 64 (by decide) wraps_u64 n (c * 2 ^ (8 * r)) (by omega) (by omega)).2]
  congr 1
  have h2 := Nat.shiftLeft_add_eq_or_of_lt hn c
  rw [Nat.shiftLeft_eq] at h2
  rw [Nat.or_comm, ← h2]; omega


theorem words_val (bs : List UInt8) (hl : bs.length = 32) (w0 w1 w2 w3 : Nat) (h : wordsG bs = [w0, w1, w2, w3]) : leN bs = w0 + 2 ^ 64 * w1 + 2 ^ 128 * w2 + 2 ^ 192 * w3 ∧ w0 < 2 ^ 64 ∧ w1 < 2 ^ 64 ∧ w2 < 2 ^ 64 ∧ w3 < 2 ^ 64 := by
  unfold wordsG at h
  simp only [List.cons.injEq, and_true] at h
  obtain ⟨h0, h1, h2, h3⟩ := h
  have b0 := leN_lt (bs.take 8)
  have b1 := leN_lt ((bs.drop 8).take 8)
  have b2 := leN_lt ((bs.drop 16).take 8)
  have b3 := leN_lt ((bs.drop 24).take 8)
  have n0 : (bs.take 8).length = 8 := by simp; omega
  have n1 : ((bs.drop 8).take 8).length = 8 := by simp; omega
  have n2 : ((bs.drop 16).take 8).length = 8 := by simp; omega
  have n3 : ((bs.drop 24).take 8).length = 8 := by simp; omega
  rw [h0, n0] at b0
  rw [h1, n1] at b1
  rw [h2, n2] at b2
  rw [h3, n3] at b3
  have e : bs = bs.take 8 ++ ((bs.drop 8).take 8 ++ ((bs.drop 16).take 8 ++ (bs.drop 24).take 8)) := by
    have d1 : bs.drop 16 = (bs.drop 8).drop 8 := by rw [List.drop_drop]
    have d2 : bs.drop 24 = (bs.drop 16).drop 8 := by rw [List.drop_drop]
    have d3 : (bs.drop 24).take 8 = bs.drop 24 := List.take_of_length_le (by simp; omega)
    rw [d3, d2, List.take_append_drop, d1, List.take_append_drop, List.take_append_drop]
  refine ⟨?_, by omega, by omega, by omega, by omega⟩
  rw [e, leN_app, leN_app, leN_app, h0, h1, h2, h3, n0, n1, n2]
  omega
def leB : Nat → Nat → List UInt8
  | 0, _ => []
  | k + 1, n => UInt8.ofNat (n % 256) :: leB k (n / 256)
theorem leB_len : ∀ k n, (leB k n).length = k
  | 0, n => rfl
  | k + 1, n => by simp [leB, leB_len k]
def byteF (N k : Nat) : UInt8 := UInt8.ofNat (N / 256 ^ k % 256)
theorem leB_get : ∀ (m n k : Nat), k < m → (leB m n)[k]? = some (byteF n k)
  | 0, n, k, h => by omega
  | m + 1, n, 0, h => by simp [leB, byteF]
  | m + 1, n, k + 1, h => by
    rw [leB, List.getElem?_cons_succ, leB_get m (n / 256) k (by omega)]
    unfold byteF
    rw [Nat.div_div_eq_div_mul, Nat.pow_succ, Nat.mul_comm]
theorem leN_leB : ∀ k n, leN (leB k n) = n % 256 ^ k
  | 0, n => by simp [leB, leN]; omega
  | k + 1, n => by
    rw [leB, leN, leN_leB k, Nat.pow_succ]
    have e : (UInt8.ofNat (n % 256)).toNat = n % 256 := by simp
    rw [e]
    have h1 := Nat.div_add_mod n 256
    have h2 : n % (256 * 256 ^ k) = n % 256 + 256 * (n / 256 % 256 ^ k) := Nat.mod_mul
    rw [Nat.mul_comm (256 ^ k) 256, h2]
def V4 (a b c d : Nat) : Value := .agg #[.int .u64 (a : Int), .int .u64 (b : Int), .int .u64 (c : Int), .int .u64 (d : Int)]
/-- The value is a number in four words. -/
def IsW (v : Value) (n : Nat) : Prop := ∃ a b c d : Nat, v = V4 a b c d ∧ a < 2 ^ 64 ∧ b < 2 ^ 64 ∧ c < 2 ^ 64 ∧ d < 2 ^ 64 ∧ a + 2 ^ 64 * b + 2 ^ 128 * c + 2 ^ 192 * d = n
theorem IsW.lt {v : Value} {n : Nat} (h : IsW v n) : n < 2 ^ 256 := by
  obtain ⟨a, b, c, d, _, h1, h2, h3, h4, rfl⟩ := h; omega
theorem IsW.uniq {v u : Value} {n : Nat} (h : IsW v n) (g : IsW u n) : v = u := by
  obtain ⟨a, b, c, d, rfl, h1, h2, h3, h4, e⟩ := h
  obtain ⟨a2, b2, c2, d2, rfl, g1, g2, g3, g4, e2⟩ := g
  have : a = a2 := by omega
  have : b = b2 := by omega
  have : c = c2 := by omega
  have : d = d2 := by omega
  subst_vars; rfl
def WPost (n : Nat) (w : World) (e : Ending) (w' : World) : Prop := ∃ v, e = .returned v ∧ IsW v n ∧ Below w.heap.size w w'
def NoS (bs : List UInt8) (w : World) (k : Nat) (wr : World) : Prop := Blk wr (w.heap.size + 1 + 1) 79 (nu (wordsG (bs.take k))) ∧ Blk wr (w.heap.size + 1) 79 (nu [0, 0, 0, 0]) ∧ Below w.heap.size w wr
theorem NoS.step {bs : List UInt8} {w wr : World} {k j n : Nat} (h : NoS bs w k wr) (hs : wordsG (bs.take (k + 1)) = (wordsG (bs.take k)).set j n) : NoS bs w (k + 1) (wr.setCell ⟨w.heap.size + 1 + 1, j, none⟩ (.int .u64 (n : Int))) :=
  ⟨by rw [hs, ← nu_set]; exact h.1.set_ j _, h.2.1.other (by omega) _, h.2.2.setCell (by show w.heap.size ≤ w.heap.size + 1 + 1; omega) _⟩
set_option maxRecDepth 100000 in
set_option maxHeartbeats 4000000 in
theorem numberOf_calls (bs : List UInt8) (hl : bs.length = 32) (w : World) :
    Calls Tryd.prog 57 #[A32 bs] w (WPost (leN bs) w) := by
  unfold A32
  obtain ⟨cs, hcs⟩ : ∃ cs, u8b bs = cs := ⟨_, rfl⟩
  have hlc : cs.length = 32 := by rw [← hcs, u8b_len, hl]
  rw [hcs]
  have hal := alloc3 w cs (nu [0, 0, 0, 0]) (nu [0, 0, 0, 0]) 22 79 79
  have H0 : Hid (NoS bs w 0 (((w.alloc (.cells cs.toArray 22)).alloc (.cells #[.int .u64 0, .int .u64 0, .int .u64 0, .int .u64 0] 79)).alloc (.cells #[.int .u64 0, .int .u64 0, .int .u64 0, .int .u64 0] 79))) :=
    Lib.hid ⟨hal.2.2.1, hal.2.1, hal.2.2.2⟩
  have HR1 : Hid ((((w.alloc (.cells cs.toArray 22)).alloc (.cells #[.int .u64 0, .int .u64 0, .int .u64 0, .int .u64 0] 79)).alloc (.cells #[.int .u64 0, .int .u64 0, .int .u64 0, .int .u64 0] 79)).rangeAt w.heap.size 0 cs) := Lib.hid hal.1.rng
  have HI : Hid ((Tryd.prog.info? 22).map (·.size) = some cs.length) := Lib.hid (by rw [hlc]; exact size32)
  have HCS := Lib.hid hcs
  clear hal hcs hlc
  go_enter Tryd.func57, Tryd.ntmps57
  go_wp2_with (refine wpList_load_mid rfl 22 _ rfl w.heap.size 0 rfl cs _ HR1.out Tryd.underlying22 rfl HI.out ?_)
  go_loopw [7] (fun i wr => ∃ k : Nat, k ≤ 32 ∧ i = .int .i64 (k : Int) ∧ NoS bs w k wr) (fun i _ => 32 - (intOf i).toNat)
  case atStart => exact ⟨0, by omega, rfl, H0.out⟩
  case round =>
    clear H0 HR1
    obtain ⟨k, hk, rfl, hns⟩ := hrel
    by_cases hp : k < 32
    · obtain ⟨c, hc⟩ : ∃ c, bs[k]? = some c := ⟨bs[k], List.getElem?_eq_getElem (by omega)⟩
      have hix := idx32 cs k hp _ (by rw [← HCS.out]; exact u8b_at hc)
      have hcl := c.toNat_lt
      have hk8 : (k : Int) / 8 = ((k / 8 : Nat) : Int) := by omega
      obtain ⟨j, hj⟩ : ∃ j, k / 8 = j := ⟨_, rfl⟩
      rw [hj] at hk8
      have hjl : j < 4 := by omega
      obtain ⟨n, hn⟩ : ∃ n, (wordsG (bs.take k))[j]? = some n := by
        have : j < (wordsG (bs.take k)).length := by simp [wordsG]; omega
        exact ⟨_, List.getElem?_eq_getElem this⟩
      have hcell := hns.1.cell (nu_at hn)
      have hfr := hns.1.frozen j
      obtain ⟨hst, hlt⟩ := words_step bs k j n c hp hj hc hn
      have hor := or_word n c.toNat (k % 8) hlt hcl (by omega)
      have HB2 := Lib.hid (hns.step hst)
      generalize n + c.toNat * 2 ^ (8 * (k % 8)) = n2 at *
      clear hst hlt hn hns hc
      go_wp2_with fail
      go_region
      all_goals go_wp2_with fail
      all_goals exact ⟨⟨k + 1, by omega, by go_num, ⟨HB2.out.1.drewN 1, HB2.out.2.1.drewN 1, HB2.out.2.2.drewN 1⟩⟩, by simp [intOf]; omega⟩
    · obtain rfl : k = 32 := by omega
      obtain ⟨hb, hz, hbw⟩ := hns
      rw [List.take_of_length_le (by omega)] at hb
      obtain ⟨w0, w1, w2, w3, hws⟩ : ∃ w0 w1 w2 w3 : Nat, wordsG bs = [w0, w1, w2, w3] := ⟨_, _, _, _, rfl⟩
      rw [hws] at hb
      obtain ⟨hv, l0, l1, l2, l3⟩ := words_val bs hl w0 w1 w2 w3 hws
      have HV : Hid (IsW (.agg (nu [w0, w1, w2, w3]).toArray) (leN bs)) := Lib.hid ⟨w0, w1, w2, w3, rfl, l0, l1, l2, l3, hv.symm⟩
      have HRF := Lib.hid hb.rng
      have HTH := Lib.hid (hz.there (n := (nu [w0, w1, w2, w3]).toArray.size) rfl)
      have hz2 := hz.setAll (vs := nu [w0, w1, w2, w3]) rfl
      have HZ2 := Lib.hid (Blk.load hz2 79 Tryd.underlying79 rfl size4)
      have HB2 := Lib.hid (blw_cells (show w.heap.size ≤ w.heap.size + 1 by omega) (nu [w0, w1, w2, w3]) 0 _ hbw)
      have HO : Hid ((nu [w0, w1, w2, w3]).toArray.all (·.oneCell') = true) := Lib.hid (oneNu _)
      have HG : Hid ((Tryd.prog.info? 79).map (·.size) = some (nu [w0, w1, w2, w3]).length) := Lib.hid size4
      have HG2 : Hid ((Tryd.prog.info? 79).map (·.size) = some (nu [w0, w1, w2, w3]).toArray.size) := Lib.hid size4
      obtain ⟨ds, hds⟩ : ∃ d, nu [w0, w1, w2, w3] = d := ⟨_, rfl⟩
      rw [hds] at HV HRF HTH HZ2 HB2 HO HG HG2
      clear hb hz hbw hws hv l0 l1 l2 l3 hz2 hds
      go_wp2_with (first
        | (refine wpList_load_mid rfl 79 _ rfl (w.heap.size + 1 + 1) 0 rfl ds _ HRF.out Tryd.underlying79 rfl HG.out ?_)
        | (refine wpList_store_mid rfl 79 _ _ rfl (w.heap.size + 1) 0 ds.toArray rfl rfl HTH.out HG2.out HO.out ?_))
      exact bodyPost_ret (v := .agg ds.toArray) (res_cell rfl _ _ _ _ rfl HZ2.out) rfl ⟨_, rfl, HV.out, HB2.out⟩
end Go.Proofs.YtoligamlafgaoaaDoor.Sc
