/- Layers 4 and 6: texts put together (SoA SoB SoC SoD). -/
import Derived.Test.YtkfdclnaaphdgaaDoorBk
import Derived.Test.YtkfdclnaaphdgaaDoorShelf
import Derived.Test.YtkfdclnaaphdgaaDoorLg
import Derived.Test.YtkfdclnaaphdgaaDoorLh
import Derived.Shelf.Spec.BitsCarry
import Derived.Deep.DeepCutAuto
namespace Go.Proofs.YtkfdclnaaphdgaaDoor.Sc
open Go.Proofs.YtkfdclnaaphdgaaDoor
open Go.ChangeShapes Go.WideShapes Go.ChangeAt Go.RowKit Go.IntWalk
set_option linter.unusedVariables false

/-- A number's bytes, the lowest first. -/
def leN : List UInt8 → Nat
  | [] => 0
  | c :: t => c.toNat + 256 * leN t
def u8b (bs : List UInt8) : List Value := bs.map fun c => Value.int .u8 (c.toNat : Int)
def A32 (bs : List UInt8) : Value := .agg (u8b bs).toArray
def nu (ls : List Nat) : List Value := ls.map fun (n : Nat) => Value.int .u64 (n : Int)
theorem nu_at {ls : List Nat} {k n : Nat} (h : ls[k]? = some n) : (nu ls)[k]? = some (.int .u64 (n : Int)) := by simp [nu, h]
theorem nu_set (ls : List Nat) (k n : Nat) : (nu ls).set k (.int .u64 (n : Int)) = nu (ls.set k n) := by simp [nu, List.map_set]
theorem u8b_at {bs : List UInt8} {k : Nat} {c : UInt8} (h : bs[k]? = some c) : (u8b bs)[k]? = some (.int .u8 (c.toNat : Int)) := by simp [u8b, h]
theorem u8b_len (bs : List UInt8) : (u8b bs).length = bs.length := by simp [u8b]
theorem u8b_set (bs : List UInt8) (k : Nat) (c : UInt8) : (u8b bs).set k (.int .u8 (c.toNat : Int)) = u8b (bs.set k c) := by simp [u8b, List.map_set]
theorem one8b (bs : List UInt8) : (u8b bs).toArray.all (·.oneCell') = true := by
  apply all_oneCell_toArray
  intro v hv
  obtain ⟨y, _, rfl⟩ := List.mem_map.1 hv
  rfl
theorem oneNu (ls : List Nat) : (nu ls).toArray.all (·.oneCell') = true := by
  apply all_oneCell_toArray
  intro v hv
  obtain ⟨y, _, rfl⟩ := List.mem_map.1 hv
  rfl
theorem idx32 (cs : List Value) (k : Nat) (hk : k < 32) (v : Value) (hv : cs[k]? = some v) (W : World) :
    (Instr.index 22 (.agg cs.toArray) (.int .i64 (k : Int))).run Tryd.prog W = .ok v W := by
  have h32 : 0 ≤ (k : Int) ∧ (k : Int) < (32 : Nat) := by omega
  simp [Instr.index, run_underlying Tryd.underlying22, asIntOf, go_sem, hv, hk]
theorem size32 : (Tryd.prog.info? 22).map (·.size) = some 32 := by kernel_rfl
theorem size32u (bs : List UInt8) (h : bs.length = 32) : (Tryd.prog.info? 22).map (·.size) = some (u8b bs).length := by rw [u8b_len, h]; exact size32
theorem size4 : (Tryd.prog.info? 67).map (·.size) = some 4 := by kernel_rfl
def wordsG (bs : List UInt8) : List Nat := [leN (bs.take 8), leN ((bs.drop 8).take 8), leN ((bs.drop 16).take 8), leN ((bs.drop 24).take 8)]
theorem leN_app (a : List UInt8) : ∀ b, leN (a ++ b) = leN a + 256 ^ a.length * leN b := by
  intro b
  induction a with
  | nil => simp [leN]
  | cons c a ih => simp only [List.cons_append, leN, ih, List.length_cons, Nat.pow_succ]; rw [Nat.mul_add, Nat.mul_comm (256 ^ a.length) 256, Nat.mul_assoc]; omega
theorem leN_lt : ∀ l : List UInt8, leN l < 256 ^ l.length
  | [] => by simp [leN]
  | c :: l => by
    have h1 := leN_lt l
    have h2 := c.toNat_lt
    rw [List.length_cons, Nat.pow_succ]
    unfold leN
    omega
def segN (bs : List UInt8) (a m : Nat) : Nat := leN ((bs.drop a).take m)
theorem segN_lt (bs : List UInt8) (a m : Nat) : segN bs a m < 256 ^ m := by
  refine Nat.lt_of_lt_of_le (leN_lt _) (Nat.pow_le_pow_right (by decide) ?_)
  rw [List.length_take]; omega
theorem segN_step (bs : List UInt8) (a m : Nat) (c : UInt8) (h : bs[a + m]? = some c) : segN bs a (m + 1) = segN bs a m + c.toNat * 256 ^ m := by
  unfold segN
  rw [List.take_add_one, List.getElem?_drop, h, Option.toList_some, leN_app]
  have hl : ((bs.drop a).take m).length = m := by
    rw [List.length_take, List.length_drop]
    have := (List.getElem?_eq_some_iff.1 h).1
    omega
  rw [hl]; simp [leN, Nat.mul_comm]
theorem wordsG_take (bs : List UInt8) (k : Nat) : wordsG (bs.take k) = [segN bs 0 (min 8 k), segN bs 8 (min 8 (k - 8)), segN bs 16 (min 8 (k - 16)), segN bs 24 (min 8 (k - 24))] := by
  simp [wordsG, segN, List.drop_take, List.take_take]
/-- One byte more. -/
theorem words_step (bs : List UInt8) (k j n : Nat) (c : UInt8) (hk : k < 32) (hj : k / 8 = j) (hc : bs[k]? = some c) (hn : (wordsG (bs.take k))[j]? = some n) :
    wordsG (bs.take (k + 1)) = (wordsG (bs.take k)).set j (n + c.toNat * 2 ^ (8 * (k % 8))) ∧ n < 2 ^ (8 * (k % 8)) := by
  obtain ⟨r, hr⟩ : ∃ r, k % 8 = r := ⟨_, rfl⟩
  have hkr : k = 8 * j + r := by omega
  have hr8 : r < 8 := by omega
  have e256 : (256 : Nat) ^ r = 2 ^ (8 * r) := by rw [Nat.pow_mul]
  rw [hr, ← e256]
  rw [wordsG_take] at hn
  rw [wordsG_take, wordsG_take]
  have hj4 : j = 0 ∨ j = 1 ∨ j = 2 ∨ j = 3 := by omega
  subst hkr
  rcases hj4 with rfl | rfl | rfl | rfl
  · have e1 : min 8 (8 * 0 + r) = r := by omega
    have e2 : min 8 (8 * 0 + r + 1) = r + 1 := by omega
    have e3 : 8 * 0 + r - 8 = 0 := by omega
    have e4 : 8 * 0 + r - 16 = 0 := by omega
    have e5 : 8 * 0 + r - 24 = 0 := by omega
    have e6 : 8 * 0 + r + 1 - 8 = 0 := by omega
    have e7 : 8 * 0 + r + 1 - 16 = 0 := by omega
    have e8 : 8 * 0 + r + 1 - 24 = 0 := by omega
    rw [e1, e3, e4, e5] at hn
    rw [e1, e2, e3, e4, e5, e6, e7, e8]
    simp only [List.getElem?_cons_zero, Option.some.injEq] at hn
    subst hn
    refine ⟨?_, segN_lt _ _ _⟩
    rw [segN_step bs 0 r c (by simpa using hc)]
    rfl
  · have e1 : min 8 (8 * 1 + r - 8) = r := by omega
    have e2 : min 8 (8 * 1 + r + 1 - 8) = r + 1 := by omega
    have e3 : min 8 (8 * 1 + r) = 8 := by omega
    have e4 : 8 * 1 + r - 16 = 0 := by omega
    have e5 : 8 * 1 + r - 24 = 0 := by omega
    have e6 : min 8 (8 * 1 + r + 1) = 8 := by omega
    have e7 : 8 * 1 + r + 1 - 16 = 0 := by omega
    have e8 : 8 * 1 + r + 1 - 24 = 0 := by omega
    rw [e1, e3, e4, e5] at hn
    rw [e1, e2, e3, e4, e5, e6, e7, e8]
    simp only [List.getElem?_cons_succ, List.getElem?_cons_zero, Option.some.injEq] at hn
    subst hn
    refine ⟨?_, segN_lt _ _ _⟩
    rw [segN_step bs 8 r c (by simpa using hc)]
    rfl
  · have e1 : min 8 (8 * 2 + r - 16) = r := by omega
    have e2 : min 8 (8 * 2 + r + 1 - 16) = r + 1 := by omega
    have e3 : min 8 (8 * 2 + r) = 8 := by omega
    have e4 : min 8 (8 * 2 + r - 8) = 8 := by omega
    have e5 : 8 * 2 + r - 24 = 0 := by omega
    have e6 : min 8 (8 * 2 + r + 1) = 8 := by omega
    have e7 : min 8 (8 * 2 + r + 1 - 8) = 8 := by omega
    have e8 : 8 * 2 + r + 1 - 24 = 0 := by omega
    rw [e1, e3, e4, e5] at hn
    rw [e1, e2, e3, e4, e5, e6, e7, e8]
    simp only [List.getElem?_cons_succ, List.getElem?_cons_zero, Option.some.injEq] at hn
    subst hn
    refine ⟨?_, segN_lt _ _ _⟩
    rw [segN_step bs 16 r c (by simpa using hc)]
    rfl
  · have e1 : min 8 (8 * 3 + r - 24) = r := by omega
    have e2 : min 8 (8 * 3 + r + 1 - 24) = r + 1 := by omega
    have e3 : min 8 (8 * 3 + r) = 8 := by omega
    have e4 : min 8 (8 * 3 + r - 8) = 8 := by omega
    have e5 : min 8 (8 * 3 + r - 16) = 8 := by omega
    have e6 : min 8 (8 * 3 + r + 1) = 8 := by omega
    have e7 : min 8 (8 * 3 + r + 1 - 8) = 8 := by omega
    have e8 : min 8 (8 * 3 + r + 1 - 16) = 8 := by omega
    rw [e1, e3, e4, e5] at hn
    rw [e1, e2, e3, e4, e5, e6, e7, e8]
    simp only [List.getElem?_cons_succ, List.getElem?_cons_zero, Option.some.injEq] at hn
    subst hn
    refine ⟨?_, segN_lt _ _ _⟩
    rw [segN_step bs 24 r c (by simpa using hc)]
    rfl
theorem or_word (n c r : Nat) (hn : n < 2 ^ (8 * r)) (hc : c < 256) (hr : r < 8) : bits .or .u64 (n : Int) (IntKind.u64.wrap ((c : Int) * 2 ^ (8 * r))) = ((n + c * 2 ^ (8 * r) : Nat) : Int) := by
  have h8 : 2 ^ (8 * r) ≤ 2 ^ 56 := Nat.pow_le_pow_right (by decide) (by omega)
  have hm : c * 2 ^ (8 * r) ≤ 255 * 2 ^ 56 := Nat.mul_le_mul (by omega) h8
  have e : (c : Int) * 2 ^ (8 * r) = ((c * 2 ^ (8 * r) : Nat) : Int) := by rw [Int.natCast_mul, Int.natCast_pow]; rfl
  rw [e, wraps_u64 _ (by omega) (by omega), (bits_nat .u64 64 (by decide) wraps_u64 n (c * 2 ^ (8 * r)) (by omega) (by omega)).2]
  congr 1
  have h2 := Nat.shiftLeft_add_eq_or_of_lt hn c
  rw [Nat.shiftLeft_eq] at h2
  rw [Nat.or_comm, ← h2]; omega


theorem words_val (bs : List UInt8) (hl : bs.length = 32) (w0 w1 w2 w3 : Nat) (h : wordsG bs = [w0, w1, w2, w3]) : leN bs = w0 + 2 ^ 64 * w1 + 2 ^ 128 * w2 + 2 ^ 192 * w3 ∧ w0 < 2 ^ 64 ∧ w1 < 2 ^ 64 ∧ w2 < 2 ^ 64 ∧ w3 < 2 ^ 64 := by
  unfold wordsG at h
  simp only [List.cons.injEq, and_true] at h
  obtain ⟨h0, h1, h2, h3⟩ := h
  have b0 := leN_lt (bs.take 8)
  have b1 := leN_lt ((bs.drop 8).take 8)
  have b2 := leN_lt ((bs.drop 16).take 8)
  have b3 := leN_lt ((bs.drop 24).take 8)
  have n0 : (bs.take 8).length = 8 := by simp; omega
  have n1 : ((bs.drop 8).take 8).length = 8 := by simp; omega
  have n2 : ((bs.drop 16).take 8).length = 8 := by simp; omega
  have n3 : ((bs.drop 24).take 8).length = 8 := by simp; omega
  rw [h0, n0] at b0
  rw [h1, n1] at b1
  rw [h2, n2] at b2
  rw [h3, n3] at b3
  have e : bs = bs.take 8 ++ ((bs.drop 8).take 8 ++ ((bs.drop 16).take 8 ++ (bs.drop 24).take 8)) := by
    have d1 : bs.drop 16 = (bs.drop 8).drop 8 := by rw [List.drop_drop]
    have d2 : bs.drop 24 = (bs.drop 16).drop 8 := by rw [List.drop_drop]
    have d3 : (bs.drop 24).take 8 = bs.drop 24 := List.take_of_length_le (by simp; omega)
    rw [d3, d2, List.take_append_drop, d1, List.take_append_drop, List.take_append_drop]
  refine ⟨?_, by omega, by omega, by omega, by omega⟩
  rw [e, leN_app, leN_app, leN_app, h0, h1, h2, h3, n0, n1, n2]
  omega
def leB : Nat → Nat → List UInt8
  | 0, _ => []
  | k + 1, n => UInt8.ofNat (n % 256) :: leB k (n / 256)
theorem leB_len : ∀ k n, (leB k n).length = k
  | 0, n => rfl
  | k + 1, n => by simp [leB, leB_len k]
def byteF (N k : Nat) : UInt8 := UInt8.ofNat (N / 256 ^ k % 256)
theorem leB_get : ∀ (m n k : Nat), k < m → (leB m n)[k]? = some (byteF n k)
  | 0, n, k, h => by omega
  | m + 1, n, 0, h => by simp [leB, byteF]
  | m + 1, n, k + 1, h => by
    rw [leB, List.getElem?_cons_succ, leB_get m (n / 256) k (by omega)]
    unfold byteF
    rw [Nat.div_div_eq_div_mul, Nat.pow_succ, Nat.mul_comm]
theorem leN_leB : ∀ k n, leN (leB k n) = n % 256 ^ k
  | 0, n => by simp [leB, leN]; omega
  | k + 1, n => by
    rw [leB, leN, leN_leB k, Nat.pow_succ]
    have e : (UInt8.ofNat (n % 256)).toNat = n % 256 := by simp
    rw [e]
    have h1 := Nat.div_add_mod n 256
    have h2 : n % (256 * 256 ^ k) = n % 256 + 256 * (n / 256 % 256 ^ k) := Nat.mod_mul
    rw [Nat.mul_comm (256 ^ k) 256, h2]
def V4 (a b c d : Nat) : Value := .agg #[.int .u64 (a : Int), .int .u64 (b : Int), .int .u64 (c : Int), .int .u64 (d : Int)]
/-- The value is a number in four words. -/
def IsW (v : Value) (n : Nat) : Prop := ∃ a b c d : Nat, v = V4 a b c d ∧ a < 2 ^ 64 ∧ b < 2 ^ 64 ∧ c < 2 ^ 64 ∧ d < 2 ^ 64 ∧ a + 2 ^ 64 * b + 2 ^ 128 * c + 2 ^ 192 * d = n
theorem IsW.lt {v : Value} {n : Nat} (h : IsW v n) : n < 2 ^ 256 := by
  obtain ⟨a, b, c, d, _, h1, h2, h3, h4, rfl⟩ := h; omega
theorem IsW.uniq {v u : Value} {n : Nat} (h : IsW v n) (g : IsW u n) : v = u := by
  obtain ⟨a, b, c, d, rfl, h1, h2, h3, h4, e⟩ := h
  obtain ⟨a2, b2, c2, d2, rfl, g1, g2, g3, g4, e2⟩ := g
  have : a = a2 := by omega
  have : b = b2 := by omega
  have : c = c2 := by omega
  have : d = d2 := by omega
  subst_vars; rfl
def WPost (n : Nat) (w : World) (e : Ending) (w' : World) : Prop := ∃ v, e = .returned v ∧ IsW v n ∧ Below w.heap.size w w'
def NoS (bs : List UInt8) (w : World) (k : Nat) (wr : World) : Prop := Blk wr (w.heap.size + 1 + 1) 67 (nu (wordsG (bs.take k))) ∧ Blk wr (w.heap.size + 1) 67 (nu [0, 0, 0, 0]) ∧ Below w.heap.size w wr
theorem NoS.step {bs : List UInt8} {w wr : World} {k j n : Nat} (h : NoS bs w k wr) (hs : wordsG (bs.take (k + 1)) = (wordsG (bs.take k)).set j n) : NoS bs w (k + 1) (wr.setCell ⟨w.heap.size + 1 + 1, j, none⟩ (.int .u64 (n : Int))) :=
  ⟨by rw [hs, ← nu_set]; exact h.1.set_ j _, h.2.1.other (by omega) _, h.2.2.setCell (by show w.heap.size ≤ w.heap.size + 1 + 1; omega) _⟩
set_option maxRecDepth 100000 in
set_option maxHeartbeats 4000000 in
theorem numberOf_calls (bs : List UInt8) (hl : bs.length = 32) (w : World) :
    Calls Tryd.prog 35 #[A32 bs] w (WPost (leN bs) w) := by
  unfold A32
  obtain ⟨cs, hcs⟩ : ∃ cs, u8b bs = cs := ⟨_, rfl⟩
  have hlc : cs.length = 32 := by rw [← hcs, u8b_len, hl]
  rw [hcs]
  have hal := alloc3 w cs (nu [0, 0, 0, 0]) (nu [0, 0, 0, 0]) 22 67 67
  have H0 : Hid (NoS bs w 0 (((w.alloc (.cells cs.toArray 22)).alloc (.cells #[.int .u64 0, .int .u64 0, .int .u64 0, .int .u64 0] 67)).alloc (.cells #[.int .u64 0, .int .u64 0, .int .u64 0, .int .u64 0] 67))) :=
    Lib.hid ⟨hal.2.2.1, hal.2.1, hal.2.2.2⟩
  have HR1 : Hid ((((w.alloc (.cells cs.toArray 22)).alloc (.cells #[.int .u64 0, .int .u64 0, .int .u64 0, .int .u64 0] 67)).alloc (.cells #[.int .u64 0, .int .u64 0, .int .u64 0, .int .u64 0] 67)).rangeAt w.heap.size 0 cs) := Lib.hid hal.1.rng
  have HI : Hid ((Tryd.prog.info? 22).map (·.size) = some cs.length) := Lib.hid (by rw [hlc]; exact size32)
  have HCS := Lib.hid hcs
  clear hal hcs hlc
  go_enter Tryd.func35, Tryd.ntmps35
  go_wp2_with (refine wpList_load_mid rfl 22 _ rfl w.heap.size 0 rfl cs _ HR1.out Tryd.underlying22 rfl HI.out ?_)
  go_loopw [7] (fun i wr => ∃ k : Nat, k ≤ 32 ∧ i = .int .i64 (k : Int) ∧ NoS bs w k wr) (fun i _ => 32 - (intOf i).toNat)
  case atStart => exact ⟨0, by omega, rfl, H0.out⟩
  case round =>
    clear H0 HR1
    obtain ⟨k, hk, rfl, hns⟩ := hrel
    by_cases hp : k < 32
    · obtain ⟨c, hc⟩ : ∃ c, bs[k]? = some c := ⟨bs[k], List.getElem?_eq_getElem (by omega)⟩
      have hix := idx32 cs k hp _ (by rw [← HCS.out]; exact u8b_at hc)
      have hcl := c.toNat_lt
      have hk8 : (k : Int) / 8 = ((k / 8 : Nat) : Int) := by omega
      obtain ⟨j, hj⟩ : ∃ j, k / 8 = j := ⟨_, rfl⟩
      rw [hj] at hk8
      have hjl : j < 4 := by omega
      obtain ⟨n, hn⟩ : ∃ n, (wordsG (bs.take k))[j]? = some n := by
        have : j < (wordsG (bs.take k)).length := by simp [wordsG]; omega
        exact ⟨_, List.getElem?_eq_getElem this⟩
      have hcell := hns.1.cell (nu_at hn)
      have hfr := hns.1.frozen j
      obtain ⟨hst, hlt⟩ := words_step bs k j n c hp hj hc hn
      have hor := or_word n c.toNat (k % 8) hlt hcl (by omega)
      have HB2 := Lib.hid (hns.step hst)
      generalize n + c.toNat * 2 ^ (8 * (k % 8)) = n2 at *
      clear hst hlt hn hns hc
      go_wp2_with fail
      go_region
      all_goals go_wp2_with fail
      all_goals exact ⟨⟨k + 1, by omega, by go_num, ⟨HB2.out.1.drewN 1, HB2.out.2.1.drewN 1, HB2.out.2.2.drewN 1⟩⟩, by simp [intOf]; omega⟩
    · obtain rfl : k = 32 := by omega
      obtain ⟨hb, hz, hbw⟩ := hns
      rw [List.take_of_length_le (by omega)] at hb
      obtain ⟨w0, w1, w2, w3, hws⟩ : ∃ w0 w1 w2 w3 : Nat, wordsG bs = [w0, w1, w2, w3] := ⟨_, _, _, _, rfl⟩
      rw [hws] at hb
      obtain ⟨hv, l0, l1, l2, l3⟩ := words_val bs hl w0 w1 w2 w3 hws
      have HV : Hid (IsW (.agg (nu [w0, w1, w2, w3]).toArray) (leN bs)) := Lib.hid ⟨w0, w1, w2, w3, rfl, l0, l1, l2, l3, hv.symm⟩
      have HRF := Lib.hid hb.rng
      have HTH := Lib.hid (hz.there (n := (nu [w0, w1, w2, w3]).toArray.size) rfl)
      have hz2 := hz.setAll (vs := nu [w0, w1, w2, w3]) rfl
      have HZ2 := Lib.hid (Blk.load hz2 67 Tryd.underlying67 rfl size4)
      have HB2 := Lib.hid (blw_cells (show w.heap.size ≤ w.heap.size + 1 by omega) (nu [w0, w1, w2, w3]) 0 _ hbw)
      have HO : Hid ((nu [w0, w1, w2, w3]).toArray.all (·.oneCell') = true) := Lib.hid (oneNu _)
      have HG : Hid ((Tryd.prog.info? 67).map (·.size) = some (nu [w0, w1, w2, w3]).length) := Lib.hid size4
      have HG2 : Hid ((Tryd.prog.info? 67).map (·.size) = some (nu [w0, w1, w2, w3]).toArray.size) := Lib.hid size4
      obtain ⟨ds, hds⟩ : ∃ d, nu [w0, w1, w2, w3] = d := ⟨_, rfl⟩
      rw [hds] at HV HRF HTH HZ2 HB2 HO HG HG2
      clear hb hz hbw hws hv l0 l1 l2 l3 hz2 hds
      go_wp2_with (first
        | (refine wpList_load_mid rfl 67 _ rfl (w.heap.size + 1 + 1) 0 rfl ds _ HRF.out Tryd.underlying67 rfl HG.out ?_)
        | (refine wpList_store_mid rfl 67 _ _ rfl (w.heap.size + 1) 0 ds.toArray rfl rfl HTH.out HG2.out HO.out ?_))
      exact bodyPost_ret (v := .agg ds.toArray) (res_cell rfl _ _ _ _ rfl HZ2.out) rfl ⟨_, rfl, HV.out, HB2.out⟩
end Go.Proofs.YtkfdclnaaphdgaaDoor.Sc
namespace Go.Proofs.YtkfdclnaaphdgaaDoor.Sc
open Go.Proofs.YtkfdclnaaphdgaaDoor
open Go.ChangeShapes Go.WideShapes Go.ChangeAt Go.RowKit Go.IntWalk
set_option linter.unusedVariables false

def valW : List Nat → Nat
  | [] => 0
  | x :: t => x + 2 ^ 64 * valW t
theorem valW_snoc (l : List Nat) (x : Nat) : valW (l ++ [x]) = valW l + 2 ^ (64 * l.length) * x := by
  induction l with
  | nil => simp [valW]
  | cons y l ih =>
    simp only [List.cons_append, valW, ih, List.length_cons]
    rw [Nat.mul_add, ← Nat.mul_assoc, ← Nat.pow_add, show 64 + 64 * l.length = 64 * (l.length + 1) by omega]
    omega
theorem valW_take (l : List Nat) (k x : Nat) (h : l[k]? = some x) : valW (l.take (k + 1)) = valW (l.take k) + 2 ^ (64 * k) * x := by
  have hk := (List.getElem?_eq_some_iff.1 h).1
  rw [List.take_add_one, h, Option.toList_some, valW_snoc, List.length_take, Nat.min_eq_left (by omega)]
theorem take_set (l : List Nat) (k x : Nat) (h : k < l.length) : (l.set k x).take (k + 1) = l.take k ++ [x] := by
  rw [List.take_add_one, List.getElem?_set_self h, List.take_set_of_le (by omega)]; rfl
theorem valW_set (l : List Nat) (k x : Nat) (h : k < l.length) : valW ((l.set k x).take (k + 1)) = valW (l.take k) + 2 ^ (64 * k) * x := by
  rw [take_set l k x h, valW_snoc, List.length_take, Nat.min_eq_left (by omega)]
theorem sub64_run (x y c : Nat) (hc : c ≤ 1) (w : World) :
    (callFunc 71 #[.int .u64 (x : Int), .int .u64 (y : Int), .int .u64 (c : Int)]).run Tryd.prog w =
      .ok (.value (.tuple #[.int .u64 (((x + 18446744073709551616 - y - c) % 18446744073709551616 : Nat) : Int), .int .u64 ((if x < y + c then 1 else 0 : Nat) : Int)])) w := by
  rw [run_callFunc_extern Tryd.func71 (by kernel_rfl) (by kernel_rfl) (by kernel_rfl) (e := sub64Entry) (by kernel_rfl), run_sub64 x y c hc]
  rfl
theorem add64_run (x y c : Nat) (hc : c ≤ 1) (w : World) :
    (callFunc 56 #[.int .u64 (x : Int), .int .u64 (y : Int), .int .u64 (c : Int)]).run Tryd.prog w =
      .ok (.value (.tuple #[.int .u64 (((x + y + c) % 18446744073709551616 : Nat) : Int), .int .u64 (((x + y + c) / 18446744073709551616 : Nat) : Int)])) w := by
  rw [run_callFunc_extern Tryd.func56 (by kernel_rfl) (by kernel_rfl) (by kernel_rfl) (e := add64Entry) (by kernel_rfl), run_add64 x y c (by omega) (by omega) (by omega) (by omega)]
  simp only [Result.andThen]
  congr 5 <;> omega
/-- Where the rounds stand: the rows, and what is carried. -/
def CrS (R : Nat → Nat → Nat → Nat → Nat → Prop) (ls bs : List Nat) (w : World) (k u : Nat) (wr : World) : Prop :=
  ∃ ds : List Nat, ds.length = 4 ∧ (∀ i, k ≤ i → ds[i]? = ls[i]?) ∧ (∀ x ∈ ds, x < 2 ^ 64) ∧ u ≤ 1 ∧ R (valW (ds.take k)) (valW (ls.take k)) (valW (bs.take k)) (2 ^ (64 * k)) u ∧
    Blk wr w.heap.size 67 (nu ds) ∧ Blk wr (w.heap.size + 1) 67 (nu bs) ∧ Blk wr (w.heap.size + 1 + 1) 67 (nu [0, 0, 0, 0]) ∧ Below w.heap.size w wr
def RSub (d a b q u : Nat) : Prop := d + b = a + q * u
def RAdd (d a b q u : Nat) : Prop := d + q * u = a + b
theorem sub_step (d a b q u x y z v : Nat) (h : RSub d a b q u) (e : z + y + u = x + 2 ^ 64 * v) : RSub (d + q * z) (a + q * x) (b + q * y) (q * 2 ^ 64) v := by
  unfold RSub at *
  have h2 : q * z + q * y + q * u = q * x + q * (2 ^ 64 * v) := by rw [← Nat.mul_add, ← Nat.mul_add, ← Nat.mul_add, e]
  rw [← Nat.mul_assoc] at h2
  omega
theorem add_step (d a b q u x y z v : Nat) (h : RAdd d a b q u) (e : z + 2 ^ 64 * v = x + y + u) : RAdd (d + q * z) (a + q * x) (b + q * y) (q * 2 ^ 64) v := by
  unfold RAdd at *
  have h2 : q * z + q * (2 ^ 64 * v) = q * x + q * y + q * u := by rw [← Nat.mul_add, ← Nat.mul_add, ← Nat.mul_add, e]
  rw [← Nat.mul_assoc] at h2
  omega
theorem CrS.step {R : Nat → Nat → Nat → Nat → Nat → Prop} {ls bs ds : List Nat} {w wr : World} {k u x y z v : Nat} (hR : ∀ d a b q, R d a b q u → R (d + q * z) (a + q * x) (b + q * y) (q * 2 ^ 64) v)
    (hv : v ≤ 1) (hz : z < 2 ^ 64) (hx : ls[k]? = some x) (hy : bs[k]? = some y) (hk : k < 4)
    (hl : ds.length = 4) (hsame : ∀ i, k ≤ i → ds[i]? = ls[i]?) (hlt : ∀ x ∈ ds, x < 2 ^ 64) (hr : R (valW (ds.take k)) (valW (ls.take k)) (valW (bs.take k)) (2 ^ (64 * k)) u)
    (h0 : Blk wr w.heap.size 67 (nu ds)) (h1 : Blk wr (w.heap.size + 1) 67 (nu bs)) (h2 : Blk wr (w.heap.size + 1 + 1) 67 (nu [0, 0, 0, 0])) (hb : Below w.heap.size w wr) :
    CrS R ls bs w (k + 1) v (wr.setCell ⟨w.heap.size, k, none⟩ (.int .u64 (z : Int))) := by
  refine ⟨ds.set k z, by rw [List.length_set]; exact hl, fun i hi => ?_, fun q hq => ?_, hv, ?_, by rw [← nu_set]; exact h0.set_ k _, h1.other (by omega) _, h2.other (by omega) _, hb.setCell (Nat.le_refl _) _⟩
  · rw [List.getElem?_set_ne (by omega)]; exact hsame i (by omega)
  · rcases List.mem_or_eq_of_mem_set hq with h | rfl
    · exact hlt q h
    · exact hz
  · rw [valW_set _ _ _ (by omega), valW_take _ _ _ hx, valW_take _ _ _ hy, show 64 * (k + 1) = 64 * k + 64 by omega, Nat.pow_add]
    exact hR _ _ _ _ hr
theorem CrS.drewN {R : Nat → Nat → Nat → Nat → Nat → Prop} {ls bs : List Nat} {w wr : World} {k u : Nat} (h : CrS R ls bs w k u wr) (n : Nat) : CrS R ls bs w k u (wr.drewN n) := by
  obtain ⟨ds, h1, h2, h3, h4, h5, h6, h7, h8, h9⟩ := h
  exact ⟨ds, h1, h2, h3, h4, h5, h6.drewN n, h7.drewN n, h8.drewN n, h9.drewN n⟩
theorem four_of {ds : List Nat} (h : ds.length = 4) : ∃ d0 d1 d2 d3, ds = [d0, d1, d2, d3] := by
  match ds, h with
  | [a, b, c, d], _ => exact ⟨a, b, c, d, rfl⟩
theorem results_cell_tmp {fn : Func} {p q : Tmp} {ty : TypeId} (h : fn.results = #[.cell p ty, .tmp q]) (tmps : Array Value) (a : Addr) (v u : Value) (W : World) (hp : tmps.getD p undef = .pointer (some a)) (hq : tmps.getD q undef = u)
    (hld : (loadVar ty a).run Tryd.prog W = .ok v W) : (results fn tmps).run Tryd.prog W = .ok (.tuple #[v, u]) W := by
  simp only [results, h]
  simp only [Array.getD_eq_getD_getElem?] at hp hq
  simp [hp, hq, asAddr, hld]
def subV (n m : Nat) : Nat := if n < m then n + 2 ^ 256 - m else n - m
def LessPost (n m : Nat) (w : World) (e : Ending) (w' : World) : Prop := ∃ v, e = .returned (.tuple #[v, .bool (decide (n < m))]) ∧ IsW v (subV n m) ∧ Below w.heap.size w w'
theorem sub_word (x y u : Nat) (hx : x < 2 ^ 64) (hy : y < 2 ^ 64) (hu : u ≤ 1) : (x + 18446744073709551616 - y - u) % 18446744073709551616 + y + u = x + 2 ^ 64 * (if x < y + u then 1 else 0) := by
  split <;> omega
set_option maxRecDepth 100000 in
set_option maxHeartbeats 4000000 in
theorem less_calls (v1 v2 : Value) (n m : Nat) (hv1 : IsW v1 n) (hv2 : IsW v2 m) (w : World) :
    Calls Tryd.prog 36 #[v1, v2] w (LessPost n m w) := by
  obtain ⟨a0, a1, a2, a3, rfl, ha0, ha1, ha2, ha3, hn⟩ := hv1
  obtain ⟨b0, b1, b2, b3, rfl, hb0, hb1, hb2, hb3, hm⟩ := hv2
  unfold V4
  have hal := alloc3 w (nu [a0, a1, a2, a3]) (nu [b0, b1, b2, b3]) (nu [0, 0, 0, 0]) 67 67 67
  have hmem : ∀ x ∈ [a0, a1, a2, a3], x < 2 ^ 64 := by
    intro x hx
    simp only [List.mem_cons, List.not_mem_nil, or_false] at hx
    rcases hx with rfl | rfl | rfl | rfl <;> assumption
  have hmemb : ∀ x ∈ [b0, b1, b2, b3], x < 2 ^ 64 := by
    intro x hx
    simp only [List.mem_cons, List.not_mem_nil, or_false] at hx
    rcases hx with rfl | rfl | rfl | rfl <;> assumption
  have H0 : Hid (CrS RSub [a0, a1, a2, a3] [b0, b1, b2, b3] w 0 0 (((w.alloc (.cells #[.int .u64 (a0 : Int), .int .u64 (a1 : Int), .int .u64 (a2 : Int), .int .u64 (a3 : Int)] 67)).alloc (.cells #[.int .u64 (b0 : Int), .int .u64 (b1 : Int), .int .u64 (b2 : Int), .int .u64 (b3 : Int)] 67)).alloc (.cells #[.int .u64 0, .int .u64 0, .int .u64 0, .int .u64 0] 67))) :=
    Lib.hid ⟨[a0, a1, a2, a3], rfl, fun _ _ => rfl, hmem, by decide, by simp [RSub, valW], hal.1, hal.2.1, hal.2.2.1, hal.2.2.2⟩
  have HM := Lib.hid (And.intro hmem hmemb)
  have HN := Lib.hid (And.intro hn hm)
  have HB := Lib.hid (And.intro (And.intro ha0 (And.intro ha1 (And.intro ha2 ha3))) (And.intro hb0 (And.intro hb1 (And.intro hb2 hb3))))
  clear hal hmem hmemb hn hm ha0 ha1 ha2 ha3 hb0 hb1 hb2 hb3
  go_enter Tryd.func36, Tryd.ntmps36
  go_wp2_with fail
  go_loopw [6, 8] (fun v i wr => ∃ k u : Nat, k ≤ 4 ∧ i = .int .i64 (k : Int) ∧ v = .int .u64 (u : Int) ∧ CrS RSub [a0, a1, a2, a3] [b0, b1, b2, b3] w k u wr) (fun _ i _ => 4 - (intOf i).toNat)
  case atStart => exact ⟨0, 0, by omega, rfl, rfl, H0.out⟩
  case round =>
    clear H0
    obtain ⟨k, u, hk, rfl, rfl, ds, hl, hsame, hlt, hu, hr, h0, h1, h2, hb⟩ := hrel
    by_cases hp : k < 4
    · obtain ⟨x, hx⟩ : ∃ x, [a0, a1, a2, a3][k]? = some x := ⟨_, List.getElem?_eq_getElem (show k < [a0, a1, a2, a3].length from hp)⟩
      obtain ⟨y, hy⟩ : ∃ y, [b0, b1, b2, b3][k]? = some y := ⟨_, List.getElem?_eq_getElem (show k < [b0, b1, b2, b3].length from hp)⟩
      have hxl := HM.out.1 x (List.mem_of_getElem? hx)
      have hyl := HM.out.2 y (List.mem_of_getElem? hy)
      have c0 := h0.cell (nu_at ((hsame k (Nat.le_refl _)).trans hx))
      have c1 := h1.cell (nu_at hy)
      have f0 := h0.frozen k
      have l0 := h0.lt
      have l1 := h1.lt
      have hsub := fun W => sub64_run x y u hu W
      have hword := sub_word x y u hxl hyl hu
      have hv1 : (if x < y + u then 1 else 0) ≤ 1 := by split <;> omega
      have hzl : (x + 18446744073709551616 - y - u) % 18446744073709551616 < 2 ^ 64 := Nat.mod_lt _ (by decide)
      obtain ⟨z, hz⟩ : ∃ z, (x + 18446744073709551616 - y - u) % 18446744073709551616 = z := ⟨_, rfl⟩
      obtain ⟨v, hv⟩ : ∃ v, (if x < y + u then 1 else 0) = v := ⟨_, rfl⟩
      rw [hz, hv] at hsub hword
      rw [hv] at hv1
      rw [hz] at hzl
      have HB2 := Lib.hid (CrS.step (R := RSub) (fun d a b q h => sub_step d a b q u x y z v h hword) hv1 hzl hx hy hp hl hsame hlt hr h0 h1 h2 hb)
      have i1 : (0 : Int) ≤ (k : Int) ∧ (k : Int) < 4 := by omega
      clear hx hy hxl hyl hword hzl hv1 hz hv hr hsame hlt hl h2 hb
      go_wp2_with fail
      go_region
      all_goals go_wp2_with fail
      all_goals exact ⟨⟨k + 1, v, by omega, by go_num, rfl, HB2.out.drewN 1⟩, by simp [intOf]; omega⟩
    · obtain rfl : k = 4 := by omega
      obtain ⟨d0, d1, d2, d3, rfl⟩ : ∃ d0 d1 d2 d3, ds = [d0, d1, d2, d3] := four_of hl
      have g0 := hlt d0 (by simp)
      have g1 := hlt d1 (by simp)
      have g2 := hlt d2 (by simp)
      have g3 := hlt d3 (by simp)
      obtain ⟨⟨ha0, ha1, ha2, ha3⟩, hb0, hb1, hb2, hb3⟩ := HB.out
      obtain ⟨hn, hm⟩ := HN.out
      simp only [RSub, valW, List.take_succ_cons, List.take_nil] at hr
      have hd : d0 + 2 ^ 64 * d1 + 2 ^ 128 * d2 + 2 ^ 192 * d3 + m = n + 2 ^ 256 * u := by omega
      have hul : u = 0 ∨ u = 1 := by omega
      have hdec : ((u : Int) == 1) = decide (n < m) := by
        rcases hul with rfl | rfl
        · rw [decide_eq_false (by omega)]; rfl
        · rw [decide_eq_true (by omega)]; rfl
      have HV : Hid (IsW (.agg (nu [d0, d1, d2, d3]).toArray) (subV n m)) := Lib.hid ⟨d0, d1, d2, d3, rfl, g0, g1, g2, g3, by unfold subV; split <;> omega⟩
      have HRF := Lib.hid h0.rng
      have HTH := Lib.hid (h2.there (n := (nu [d0, d1, d2, d3]).toArray.size) rfl)
      have hz2 := h2.setAll (vs := nu [d0, d1, d2, d3]) rfl
      have HZ2 := Lib.hid (Blk.load hz2 67 Tryd.underlying67 rfl size4)
      have HB2 := Lib.hid (blw_cells (show w.heap.size ≤ w.heap.size + 1 + 1 by omega) (nu [d0, d1, d2, d3]) 0 _ hb)
      have HO : Hid ((nu [d0, d1, d2, d3]).toArray.all (·.oneCell') = true) := Lib.hid (oneNu _)
      have HG : Hid ((Tryd.prog.info? 67).map (·.size) = some (nu [d0, d1, d2, d3]).length) := Lib.hid size4
      have HG2 : Hid ((Tryd.prog.info? 67).map (·.size) = some (nu [d0, d1, d2, d3]).toArray.size) := Lib.hid size4
      obtain ⟨dv, hdv⟩ : ∃ d, nu [d0, d1, d2, d3] = d := ⟨_, rfl⟩
      rw [hdv] at HV HRF HTH HZ2 HB2 HO HG HG2
      clear hb h0 h1 h2 hz2 hdv hd hul g0 g1 g2 g3 hn hm ha0 ha1 ha2 ha3 hb0 hb1 hb2 hb3 hr hsame hlt hl
      go_wp2_with (first
        | (refine wpList_load_mid rfl 67 _ rfl w.heap.size 0 rfl dv _ HRF.out Tryd.underlying67 rfl HG.out ?_)
        | (refine wpList_store_mid rfl 67 _ _ rfl (w.heap.size + 1 + 1) 0 dv.toArray rfl rfl HTH.out HG2.out HO.out ?_))
      exact bodyPost_ret (v := .tuple #[.agg dv.toArray, .bool (decide (n < m))]) (results_cell_tmp rfl _ _ _ _ _ rfl rfl HZ2.out) rfl ⟨_, rfl, HV.out, HB2.out⟩
theorem add_word (x y u : Nat) : (x + y + u) % 18446744073709551616 + 2 ^ 64 * ((x + y + u) / 18446744073709551616) = x + y + u := by omega
set_option maxRecDepth 100000 in
set_option maxHeartbeats 4000000 in
theorem and_calls (v1 v2 : Value) (n m : Nat) (hv1 : IsW v1 n) (hv2 : IsW v2 m) (w : World) :
    Calls Tryd.prog 102 #[v1, v2] w (WPost ((n + m) % 2 ^ 256) w) := by
  obtain ⟨a0, a1, a2, a3, rfl, ha0, ha1, ha2, ha3, hn⟩ := hv1
  obtain ⟨b0, b1, b2, b3, rfl, hb0, hb1, hb2, hb3, hm⟩ := hv2
  unfold V4
  have hal := alloc3 w (nu [a0, a1, a2, a3]) (nu [b0, b1, b2, b3]) (nu [0, 0, 0, 0]) 67 67 67
  have hmem : ∀ x ∈ [a0, a1, a2, a3], x < 2 ^ 64 := by
    intro x hx
    simp only [List.mem_cons, List.not_mem_nil, or_false] at hx
    rcases hx with rfl | rfl | rfl | rfl <;> assumption
  have hmemb : ∀ x ∈ [b0, b1, b2, b3], x < 2 ^ 64 := by
    intro x hx
    simp only [List.mem_cons, List.not_mem_nil, or_false] at hx
    rcases hx with rfl | rfl | rfl | rfl <;> assumption
  have H0 : Hid (CrS RAdd [a0, a1, a2, a3] [b0, b1, b2, b3] w 0 0 (((w.alloc (.cells #[.int .u64 (a0 : Int), .int .u64 (a1 : Int), .int .u64 (a2 : Int), .int .u64 (a3 : Int)] 67)).alloc (.cells #[.int .u64 (b0 : Int), .int .u64 (b1 : Int), .int .u64 (b2 : Int), .int .u64 (b3 : Int)] 67)).alloc (.cells #[.int .u64 0, .int .u64 0, .int .u64 0, .int .u64 0] 67))) :=
    Lib.hid ⟨[a0, a1, a2, a3], rfl, fun _ _ => rfl, hmem, by decide, by simp [RAdd, valW], hal.1, hal.2.1, hal.2.2.1, hal.2.2.2⟩
  have HM := Lib.hid (And.intro hmem hmemb)
  have HN := Lib.hid (And.intro hn hm)
  have HB := Lib.hid (And.intro (And.intro ha0 (And.intro ha1 (And.intro ha2 ha3))) (And.intro hb0 (And.intro hb1 (And.intro hb2 hb3))))
  clear hal hmem hmemb hn hm ha0 ha1 ha2 ha3 hb0 hb1 hb2 hb3
  go_enter Tryd.func102, Tryd.ntmps102
  go_wp2_with fail
  go_loopw [5, 7] (fun v i wr => ∃ k u : Nat, k ≤ 4 ∧ i = .int .i64 (k : Int) ∧ v = .int .u64 (u : Int) ∧ CrS RAdd [a0, a1, a2, a3] [b0, b1, b2, b3] w k u wr) (fun _ i _ => 4 - (intOf i).toNat)
  case atStart => exact ⟨0, 0, by omega, rfl, rfl, H0.out⟩
  case round =>
    clear H0
    obtain ⟨k, u, hk, rfl, rfl, ds, hl, hsame, hlt, hu, hr, h0, h1, h2, hb⟩ := hrel
    by_cases hp : k < 4
    · obtain ⟨x, hx⟩ : ∃ x, [a0, a1, a2, a3][k]? = some x := ⟨_, List.getElem?_eq_getElem (show k < [a0, a1, a2, a3].length from hp)⟩
      obtain ⟨y, hy⟩ : ∃ y, [b0, b1, b2, b3][k]? = some y := ⟨_, List.getElem?_eq_getElem (show k < [b0, b1, b2, b3].length from hp)⟩
      have hxl := HM.out.1 x (List.mem_of_getElem? hx)
      have hyl := HM.out.2 y (List.mem_of_getElem? hy)
      have c0 := h0.cell (nu_at ((hsame k (Nat.le_refl _)).trans hx))
      have c1 := h1.cell (nu_at hy)
      have f0 := h0.frozen k
      have l0 := h0.lt
      have l1 := h1.lt
      have hsub := fun W => add64_run x y u hu W
      have hword := add_word x y u
      have hv1 : (x + y + u) / 18446744073709551616 ≤ 1 := by omega
      have hzl : (x + y + u) % 18446744073709551616 < 2 ^ 64 := Nat.mod_lt _ (by decide)
      obtain ⟨z, hz⟩ : ∃ z, (x + y + u) % 18446744073709551616 = z := ⟨_, rfl⟩
      obtain ⟨v, hv⟩ : ∃ v, (x + y + u) / 18446744073709551616 = v := ⟨_, rfl⟩
      rw [hz, hv] at hsub hword
      rw [hv] at hv1
      rw [hz] at hzl
      have HB2 := Lib.hid (CrS.step (R := RAdd) (fun d a b q h => add_step d a b q u x y z v h hword) hv1 hzl hx hy hp hl hsame hlt hr h0 h1 h2 hb)
      have i1 : (0 : Int) ≤ (k : Int) ∧ (k : Int) < 4 := by omega
      clear hx hy hxl hyl hword hzl hv1 hz hv hr hsame hlt hl h2 hb
      go_wp2_with fail
      go_region
      all_goals go_wp2_with fail
      all_goals exact ⟨⟨k + 1, v, by omega, by go_num, rfl, HB2.out.drewN 1⟩, by simp [intOf]; omega⟩
    · obtain rfl : k = 4 := by omega
      obtain ⟨d0, d1, d2, d3, rfl⟩ : ∃ d0 d1 d2 d3, ds = [d0, d1, d2, d3] := four_of hl
      have g0 := hlt d0 (by simp)
      have g1 := hlt d1 (by simp)
      have g2 := hlt d2 (by simp)
      have g3 := hlt d3 (by simp)
      obtain ⟨⟨ha0, ha1, ha2, ha3⟩, hb0, hb1, hb2, hb3⟩ := HB.out
      obtain ⟨hn, hm⟩ := HN.out
      simp only [RAdd, valW, List.take_succ_cons, List.take_nil] at hr
      have hd : d0 + 2 ^ 64 * d1 + 2 ^ 128 * d2 + 2 ^ 192 * d3 + 2 ^ 256 * u = n + m := by omega
      have HV : Hid (IsW (.agg (nu [d0, d1, d2, d3]).toArray) ((n + m) % 2 ^ 256)) := Lib.hid ⟨d0, d1, d2, d3, rfl, g0, g1, g2, g3, by omega⟩
      have HRF := Lib.hid h0.rng
      have HTH := Lib.hid (h2.there (n := (nu [d0, d1, d2, d3]).toArray.size) rfl)
      have hz2 := h2.setAll (vs := nu [d0, d1, d2, d3]) rfl
      have HZ2 := Lib.hid (Blk.load hz2 67 Tryd.underlying67 rfl size4)
      have HB2 := Lib.hid (blw_cells (show w.heap.size ≤ w.heap.size + 1 + 1 by omega) (nu [d0, d1, d2, d3]) 0 _ hb)
      have HO : Hid ((nu [d0, d1, d2, d3]).toArray.all (·.oneCell') = true) := Lib.hid (oneNu _)
      have HG : Hid ((Tryd.prog.info? 67).map (·.size) = some (nu [d0, d1, d2, d3]).length) := Lib.hid size4
      have HG2 : Hid ((Tryd.prog.info? 67).map (·.size) = some (nu [d0, d1, d2, d3]).toArray.size) := Lib.hid size4
      obtain ⟨dv, hdv⟩ : ∃ d, nu [d0, d1, d2, d3] = d := ⟨_, rfl⟩
      rw [hdv] at HV HRF HTH HZ2 HB2 HO HG HG2
      clear hb h0 h1 h2 hz2 hdv hd g0 g1 g2 g3 hn hm ha0 ha1 ha2 ha3 hb0 hb1 hb2 hb3 hr hsame hlt hl
      go_wp2_with (first
        | (refine wpList_load_mid rfl 67 _ rfl w.heap.size 0 rfl dv _ HRF.out Tryd.underlying67 rfl HG.out ?_)
        | (refine wpList_store_mid rfl 67 _ _ rfl (w.heap.size + 1 + 1) 0 dv.toArray rfl rfl HTH.out HG2.out HO.out ?_))
      exact bodyPost_ret (v := .agg dv.toArray) (res_cell rfl _ _ _ _ rfl HZ2.out) rfl ⟨_, rfl, HV.out, HB2.out⟩
end Go.Proofs.YtkfdclnaaphdgaaDoor.Sc
namespace Go.Proofs.YtkfdclnaaphdgaaDoor.Sc
open Go.Proofs.YtkfdclnaaphdgaaDoor
open Go.ChangeShapes Go.WideShapes Go.ChangeAt Go.RowKit Go.IntWalk
set_option linter.unusedVariables false

/-- The first k bytes are there. -/
def outF (N k : Nat) : List UInt8 := (leB 32 N).take k ++ List.replicate (32 - k) 0
theorem outF_step (N k : Nat) (hk : k < 32) : (outF N k).set k (byteF N k) = outF N (k + 1) := by
  unfold outF
  have hm : ((leB 32 N).take k).length = k := by rw [List.length_take, leB_len]; omega
  rw [List.set_append, hm, if_neg (by omega), Nat.sub_self, show 32 - k = (32 - (k + 1)) + 1 by omega, List.replicate_succ, List.set_cons_zero, List.take_add_one, leB_get 32 N k hk]
  simp
theorem outF_full (N : Nat) : outF N 32 = leB 32 N := by
  unfold outF
  rw [List.take_of_length_le (by rw [leB_len]; exact Nat.le_refl _)]; simp
theorem outF_zero (N : Nat) : outF N 0 = List.replicate 32 0 := by simp [outF]
theorem outF_len (N k : Nat) (hk : k ≤ 32) : (outF N k).length = 32 := by simp [outF, leB_len]; omega
/-- A byte of a number, out of its word. -/
theorem byte_word (N a b c d k j x : Nat) (ha : a < 2 ^ 64) (hb : b < 2 ^ 64) (hc : c < 2 ^ 64) (hd : d < 2 ^ 64) (hN : a + 2 ^ 64 * b + 2 ^ 128 * c + 2 ^ 192 * d = N) (hk : k < 32) (hj : k / 8 = j) (hx : [a, b, c, d][j]? = some x) :
    ((x / 2 ^ (8 * (k % 8)) % 256 : Nat) : Int) = ((byteF N k).toNat : Int) := by
  have key : x / 2 ^ (8 * (k % 8)) % 256 = N / 256 ^ k % 256 := by
    obtain ⟨r, hr⟩ : ∃ r, k % 8 = r := ⟨_, rfl⟩
    have hkr : k = 8 * j + r := by omega
    have e1 : (256 : Nat) ^ k = 2 ^ (64 * j) * 2 ^ (8 * r) := by rw [show (256 : Nat) = 2 ^ 8 from rfl, ← Nat.pow_mul, ← Nat.pow_add]; congr 1; omega
    rw [hr, e1, ← Nat.div_div_eq_div_mul]
    have hw : N / 2 ^ (64 * j) % 2 ^ 64 = x := by
      have hj4 : j = 0 ∨ j = 1 ∨ j = 2 ∨ j = 3 := by omega
      rcases hj4 with rfl | rfl | rfl | rfl <;> simp at hx <;> subst hx <;> omega
    rw [← hw]
    generalize N / 2 ^ (64 * j) = y
    have hr8 : r = 0 ∨ r = 1 ∨ r = 2 ∨ r = 3 ∨ r = 4 ∨ r = 5 ∨ r = 6 ∨ r = 7 := by omega
    rcases hr8 with rfl | rfl | rfl | rfl | rfl | rfl | rfl | rfl <;> omega
  rw [key]
  unfold byteF
  simp
def BPost (n : Nat) (w : World) (e : Ending) (w' : World) : Prop := e = .returned (A32 (leB 32 n)) ∧ Below w.heap.size w w'
def ByS (ls : List Nat) (n : Nat) (w : World) (k : Nat) (wr : World) : Prop := Blk wr (w.heap.size + 1 + 1) 22 (u8b (outF n k)) ∧ Blk wr w.heap.size 67 (nu ls) ∧ Blk wr (w.heap.size + 1) 22 (u8b (List.replicate 32 0)) ∧ Below w.heap.size w wr
theorem ByS.drewN {ls : List Nat} {n k : Nat} {w wr : World} (h : ByS ls n w k wr) (q : Nat) : ByS ls n w k (wr.drewN q) := ⟨h.1.drewN q, h.2.1.drewN q, h.2.2.1.drewN q, h.2.2.2.drewN q⟩
set_option maxRecDepth 100000 in
set_option maxHeartbeats 4000000 in
theorem bytes_calls (v : Value) (n : Nat) (hv : IsW v n) (w : World) :
    Calls Tryd.prog 91 #[v] w (BPost n w) := by
  obtain ⟨a, b, c, d, rfl, ha, hb, hc, hd, hn⟩ := hv
  unfold V4
  have hal := alloc3 w (nu [a, b, c, d]) (u8b (List.replicate 32 0)) (u8b (List.replicate 32 0)) 67 22 22
  have H0 : Hid (ByS [a, b, c, d] n w 0 (((w.alloc (.cells #[.int .u64 (a : Int), .int .u64 (b : Int), .int .u64 (c : Int), .int .u64 (d : Int)] 67)).alloc (.cells #[.int .u8 0, .int .u8 0, .int .u8 0, .int .u8 0, .int .u8 0, .int .u8 0, .int .u8 0, .int .u8 0, .int .u8 0, .int .u8 0, .int .u8 0, .int .u8 0, .int .u8 0, .int .u8 0, .int .u8 0, .int .u8 0, .int .u8 0, .int .u8 0, .int .u8 0, .int .u8 0, .int .u8 0, .int .u8 0, .int .u8 0, .int .u8 0, .int .u8 0, .int .u8 0, .int .u8 0, .int .u8 0, .int .u8 0, .int .u8 0, .int .u8 0, .int .u8 0] 22)).alloc (.cells #[.int .u8 0, .int .u8 0, .int .u8 0, .int .u8 0, .int .u8 0, .int .u8 0, .int .u8 0, .int .u8 0, .int .u8 0, .int .u8 0, .int .u8 0, .int .u8 0, .int .u8 0, .int .u8 0, .int .u8 0, .int .u8 0, .int .u8 0, .int .u8 0, .int .u8 0, .int .u8 0, .int .u8 0, .int .u8 0, .int .u8 0, .int .u8 0, .int .u8 0, .int .u8 0, .int .u8 0, .int .u8 0, .int .u8 0, .int .u8 0, .int .u8 0, .int .u8 0] 22))) :=
    Lib.hid ⟨by rw [outF_zero]; exact hal.2.2.1, hal.1, hal.2.1, hal.2.2.2⟩
  clear hal
  go_enter Tryd.func91, Tryd.ntmps91
  go_wp2_with fail
  go_loopw [5] (fun i wr => ∃ k : Nat, k ≤ 32 ∧ i = .int .i64 (k : Int) ∧ ByS [a, b, c, d] n w k wr) (fun i _ => 32 - (intOf i).toNat)
  case atStart => exact ⟨0, by omega, rfl, H0.out⟩
  case round =>
    clear H0
    obtain ⟨k, hk, rfl, hu, hz, hzz, hbw⟩ := hrel
    by_cases hp : k < 32
    · have hk8 : (k : Int) / 8 = ((k / 8 : Nat) : Int) := by omega
      obtain ⟨j, hj⟩ : ∃ j, k / 8 = j := ⟨_, rfl⟩
      rw [hj] at hk8
      have hjl : j < 4 := by omega
      obtain ⟨x, hx⟩ : ∃ x, [a, b, c, d][j]? = some x := ⟨_, List.getElem?_eq_getElem (show j < [a, b, c, d].length from hjl)⟩
      have hcell := hz.cell (nu_at hx)
      have hbyte := byte_word n a b c d k j x ha hb hc hd hn hp hj hx
      have hlen : k < (u8b (outF n k)).length := by rw [u8b_len, outF_len n k hk]; exact hp
      obtain ⟨ov, hov⟩ : ∃ v, (u8b (outF n k))[k]? = some v := ⟨_, List.getElem?_eq_getElem hlen⟩
      have hold := hu.cell hov
      have hfr := hu.frozen k
      have hu2 := hu.set_ k (.int .u8 ((byteF n k).toNat : Int))
      rw [u8b_set, outF_step n k hp] at hu2
      have HB2 : Hid (ByS [a, b, c, d] n w (k + 1) (wr.setCell ⟨w.heap.size + 1 + 1, k, none⟩ (.int .u8 ((byteF n k).toNat : Int)))) := Lib.hid ⟨hu2, hz.other (by omega) _, hzz.other (by omega) _, hbw.setCell (by show w.heap.size ≤ w.heap.size + 1 + 1; omega) _⟩
      obtain ⟨y, hy⟩ : ∃ y, ((byteF n k).toNat : Int) = y := ⟨_, rfl⟩
      rw [hy] at hbyte HB2
      obtain ⟨r, hr⟩ : ∃ r, k % 8 = r := ⟨_, rfl⟩
      rw [hr] at hbyte
      have hr8 : (k : Int) % 8 = (r : Int) := by omega
      have hrl : r < 8 := by omega
      have hcv : IntKind.u8.wrap ((x : Int) / 2 ^ (8 * r)) = y := by
        rw [← hbyte, IntKind.wrap_u8, Int.natCast_emod, Int.natCast_ediv, Int.natCast_pow]; rfl
      clear hu hz hzz hbw hu2 hx hbyte hlen hov hy hj hr
      go_wp2_with fail
      exact ⟨⟨k + 1, by omega, by go_num, HB2.out⟩, by simp [intOf]; omega⟩
    · obtain rfl : k = 32 := by omega
      rw [outF_full] at hu
      have HRF := Lib.hid hu.rng
      have HTH := Lib.hid (hzz.there (n := (u8b (leB 32 n)).toArray.size) (by simp [u8b_len, leB_len]))
      have hz2 := hzz.setAll (vs := u8b (leB 32 n)) (by simp [u8b_len, leB_len])
      have HZ2 := Lib.hid (Blk.load hz2 22 Tryd.underlying22 rfl (size32u _ (leB_len _ _)))
      have HB2 := Lib.hid (blw_cells (show w.heap.size ≤ w.heap.size + 1 by omega) (u8b (leB 32 n)) 0 _ hbw)
      have HO : Hid ((u8b (leB 32 n)).toArray.all (·.oneCell') = true) := Lib.hid (one8b _)
      have HG : Hid ((Tryd.prog.info? 22).map (·.size) = some (u8b (leB 32 n)).length) := Lib.hid (size32u _ (leB_len _ _))
      have HG2 : Hid ((Tryd.prog.info? 22).map (·.size) = some (u8b (leB 32 n)).toArray.size) := Lib.hid (by simpa using size32u _ (leB_len 32 n))
      obtain ⟨dv, hdv⟩ : ∃ d, u8b (leB 32 n) = d := ⟨_, rfl⟩
      rw [hdv] at HRF HTH HZ2 HB2 HO HG HG2
      have HDV := Lib.hid hdv
      clear hu hz hzz hbw hz2 hdv
      go_wp2_with (first
        | (refine wpList_load_mid rfl 22 _ rfl (w.heap.size + 1 + 1) 0 rfl dv _ HRF.out Tryd.underlying22 rfl HG.out ?_)
        | (refine wpList_store_mid rfl 22 _ _ rfl (w.heap.size + 1) 0 dv.toArray rfl rfl HTH.out HG2.out HO.out ?_))
      exact bodyPost_ret (v := .agg dv.toArray) (res_cell rfl _ _ _ _ rfl HZ2.out) rfl ⟨by unfold A32; rw [HDV.out], HB2.out⟩
end Go.Proofs.YtkfdclnaaphdgaaDoor.Sc
namespace Go.Proofs.YtkfdclnaaphdgaaDoor.Sc
open Go.Proofs.YtkfdclnaaphdgaaDoor
open Go.ChangeShapes Go.WideShapes Go.ChangeAt Go.RowKit Go.IntWalk
set_option linter.unusedVariables false

def us (ds : List Int) : List Value := ds.map (Value.int .u64)
def KS : List Int := [6346243789798364141, 1503914060200516822, 0, 1152921504606846976]
/-- The order is there. -/
def Tab (w : World) : Prop := w.rangeAt 0 0 (us KS) ∧ 0 < w.heap.size
theorem Tab.later {w w1 : World} (h : Tab w) (b : Below w.heap.size w w1) : Tab w1 :=
  ⟨fun j v hv => (b.cell (p := ⟨0, 0 + j, none⟩) h.2).trans (h.1 j v hv), by have := b.size; have := h.2; omega⟩
/-- The group's order, and what it is beyond 2^252. -/
def EX : Nat := 27742317777372353535851937790883648493
def LO : Nat := 2 ^ 252 + EX
theorem LO_eq : LO = 7237005577332262213973186563042994240857116359379907606001950938285454250989 := by decide +kernel
theorem order_is : IsW (.agg (us KS).toArray) LO := ⟨6346243789798364141, 1503914060200516822, 0, 1152921504606846976, rfl, by decide, by decide, by decide, by decide, by decide +kernel⟩
theorem or_low (a c : Nat) (hc : c < 256) : bits .or .u64 (IntKind.u64.wrap ((a : Int) * 256)) (c : Int) = ((a * 256 % 2 ^ 64 + c : Nat) : Int) := by
  have e : IntKind.u64.wrap ((a : Int) * 256) = ((a % 2 ^ 56 * 256 : Nat) : Int) := by rw [IntKind.wrap_u64]; omega
  have h2 := Nat.shiftLeft_add_eq_or_of_lt (show c < 2 ^ 8 from hc) (a % 2 ^ 56)
  rw [Nat.shiftLeft_eq] at h2
  rw [e, (bits_nat .u64 64 (by decide) wraps_u64 (a % 2 ^ 56 * 256) c (by omega) (by omega)).2, show a % 2 ^ 56 * 256 = a % 2 ^ 56 * 2 ^ 8 from rfl, ← h2]
  congr 1; omega
theorem IsW.form {v : Value} {n : Nat} (h : IsW v n) : ∃ dv : List Value, v = .agg dv.toArray ∧ dv.length = 4 ∧ dv.toArray.all (·.oneCell') = true := by
  obtain ⟨a, b, c, d, rfl, _⟩ := h
  exact ⟨nu [a, b, c, d], rfl, rfl, oneNu _⟩
theorem size4u (dv : List Value) (h : dv.length = 4) : (Tryd.prog.info? 67).map (·.size) = some dv.length := by rw [h]; exact size4
theorem size4a (dv : List Value) (h : dv.length = 4) : (Tryd.prog.info? 67).map (·.size) = some dv.toArray.size := by rw [List.size_toArray, h]; exact size4
/-- A number that was laid in a block of its own. -/
theorem laid4 (w : World) (dv : List Value) (h : dv.length = 4) :
    (w.alloc (.cells #[.int .u64 0, .int .u64 0, .int .u64 0, .int .u64 0] 67)).there w.heap.size 0 dv.toArray.size ∧
    Blk ((w.alloc (.cells #[.int .u64 0, .int .u64 0, .int .u64 0, .int .u64 0] 67)).setCells w.heap.size 0 dv) w.heap.size 67 dv ∧
    Below w.heap.size w ((w.alloc (.cells #[.int .u64 0, .int .u64 0, .int .u64 0, .int .u64 0] 67)).setCells w.heap.size 0 dv) := by
  have hz : Blk (w.alloc (.cells #[.int .u64 0, .int .u64 0, .int .u64 0, .int .u64 0] 67)) w.heap.size 67 (nu [0, 0, 0, 0]) := Blk.new w _ _
  exact ⟨hz.there (by simp [h, nu]), hz.setAll (by simp [h, nu]), blw_cells (Nat.le_refl _) dv 0 _ ((Below.refl _ _).alloc (Nat.le_refl _) _)⟩
theorem push_mod (N above x m : Nat) (h : N = above * 2 ^ 252 + x) (hm : m = above * EX) (hx : x < 2 ^ 252) (hml : m < LO) : N % LO = if x < m then x + LO - m else x - m := by
  have e : N + m = above * LO + x := by rw [h, hm]; unfold LO; rw [Nat.mul_add]; omega
  have hE : 2 ^ 252 < LO := by decide +kernel
  split
  · have h1 : N = (x + LO - m) + LO * (above - 1) := by
      have : 1 ≤ above := by
        rcases Nat.eq_zero_or_pos above with h0 | h0
        · rw [h0, Nat.zero_mul] at hm; omega
        · exact h0
      have h3 : above * LO = LO * (above - 1) + LO := by
        obtain ⟨q, rfl⟩ : ∃ q, above = q + 1 := ⟨above - 1, by omega⟩
        rw [Nat.add_sub_cancel, Nat.add_mul, Nat.mul_comm q LO, Nat.one_mul]
      omega
    rw [h1, Nat.add_mul_mod_self_left, Nat.mod_eq_of_lt (by omega)]
  · have h1 : N = (x - m) + LO * above := by rw [Nat.mul_comm LO above]; omega
    rw [h1, Nat.add_mul_mod_self_left, Nat.mod_eq_of_lt (by omega)]
set_option maxRecDepth 100000 in
set_option maxHeartbeats 4000000 in
theorem pushed_calls (v : Value) (n c : Nat) (hv : IsW v n) (hn : n < LO) (hc : c < 256) (w : World) (hT : Tab w) :
    Calls Tryd.prog 90 #[v, .int .u8 (c : Int)] w (WPost ((256 * n + c) % LO) w) := by
  obtain ⟨a0, a1, a2, a3, rfl, h0, h1, h2, h3, hval⟩ := hv
  unfold V4
  have hL := LO_eq
  have ho0 := or_low a0 c hc
  have ho1 := or_low a1 (a0 / 72057594037927936) (by omega)
  have ho2 := or_low a2 (a1 / 72057594037927936) (by omega)
  have ho3 := or_low a3 (a2 / 72057594037927936) (by omega)
  have ha3 : a3 < 2 ^ 61 := by omega
  obtain ⟨ab, hab⟩ : ∃ x, a3 / 4503599627370496 = x := ⟨_, rfl⟩
  have hab9 : ab < 512 := by omega
  obtain ⟨y0, hy0⟩ : ∃ x, a0 * 256 % 2 ^ 64 + c = x := ⟨_, rfl⟩
  obtain ⟨y1, hy1⟩ : ∃ x, a1 * 256 % 2 ^ 64 + a0 / 72057594037927936 = x := ⟨_, rfl⟩
  obtain ⟨y2, hy2⟩ : ∃ x, a2 * 256 % 2 ^ 64 + a1 / 72057594037927936 = x := ⟨_, rfl⟩
  obtain ⟨z3, hz3⟩ : ∃ x, a3 * 256 % 2 ^ 64 + a2 / 72057594037927936 = x := ⟨_, rfl⟩
  obtain ⟨y3, hy3⟩ : ∃ x, z3 % 1152921504606846976 = x := ⟨_, rfl⟩
  have hmask : bits .and .u64 (z3 : Int) 1152921504606846975 = (y3 : Int) := by
    rw [show (1152921504606846975 : Int) = 2 ^ 60 - 1 from rfl, bits_mask .u64 64 (by decide) wraps_u64 60 (by decide) (z3 : Int) (by omega) (by omega), ← hy3]; omega
  rw [hy0] at ho0
  rw [hy1] at ho1
  rw [hy2] at ho2
  rw [hz3] at ho3
  have hX : y0 + 2 ^ 64 * y1 + 2 ^ 128 * y2 + 2 ^ 192 * y3 + ab * 2 ^ 252 = 256 * n + c := by omega
  have hyl : y0 < 2 ^ 64 ∧ y1 < 2 ^ 64 ∧ y2 < 2 ^ 64 ∧ y3 < 2 ^ 60 := by omega
  have q3 : (a3 : Int) / 4503599627370496 = (ab : Int) := by omega
  have q0 : (a0 : Int) / 72057594037927936 = ((a0 / 72057594037927936 : Nat) : Int) := by omega
  have q1 : (a1 : Int) / 72057594037927936 = ((a1 / 72057594037927936 : Nat) : Int) := by omega
  have q2 : (a2 : Int) / 72057594037927936 = ((a2 / 72057594037927936 : Nat) : Int) := by omega
  obtain ⟨r0, hr0⟩ : ∃ x, a0 / 72057594037927936 = x := ⟨_, rfl⟩
  obtain ⟨r1, hr1⟩ : ∃ x, a1 / 72057594037927936 = x := ⟨_, rfl⟩
  obtain ⟨r2, hr2⟩ : ∃ x, a2 / 72057594037927936 = x := ⟨_, rfl⟩
  rw [hr0] at q0 ho1
  rw [hr1] at q1 ho2
  rw [hr2] at q2 ho3
  have HX := Lib.hid (And.intro hX hyl)
  have HT := Lib.hid hT
  have HN := Lib.hid hn
  have HAB := Lib.hid hab9
  have hcw : IntKind.u64.wrap (c : Int) = (c : Int) := by rw [IntKind.wrap_u64]; omega
  have hal := alloc3 w (nu [a0, a1, a2, a3]) (nu [0, 0, 0, 0]) (nu [y0, y1, y2, y3]) 67 67 67
  have HAL := Lib.hid (And.intro hal.2.1 (And.intro hal.2.2.1 hal.2.2.2))
  clear hal h0 h1 h2 h3 hval hL ha3 hab hy0 hy1 hy2 hz3 hy3 hX hyl hr0 hr1 hr2 hT hn hab9 hc
  go_enter Tryd.func90, Tryd.ntmps90
  go_upto_region 3 with fail
  clear ho0 ho1 ho2 ho3 hmask q0 q1 q2 q3 hcw
  refine wp_gen (fun W => Blk W (w.heap.size + 1) 67 (nu [0, 0, 0, 0]) ∧ Blk W (w.heap.size + 1 + 1) 67 (nu [y0, y1, y2, y3]) ∧ Below w.heap.size w W) HAL.out ?_
  rintro W1 h1
  have H1 := Lib.hid h1
  clear h1 HAL
  obtain ⟨p1, hp1⟩ : ∃ x, ab * 6346243789798364141 / 18446744073709551616 = x := ⟨_, rfl⟩
  obtain ⟨l1, hl1⟩ : ∃ x, ab * 6346243789798364141 % 18446744073709551616 = x := ⟨_, rfl⟩
  obtain ⟨p2, hp2⟩ : ∃ x, ab * 1503914060200516822 / 18446744073709551616 = x := ⟨_, rfl⟩
  obtain ⟨l2, hl2⟩ : ∃ x, ab * 1503914060200516822 % 18446744073709551616 = x := ⟨_, rfl⟩
  have HM1 : Hid (∀ W : World, Calls Tryd.prog 92 #[.int .u64 (ab : Int), .int .u64 6346243789798364141] W fun e w' => e = .returned (.tuple #[.int .u64 (p1 : Int), .int .u64 (l1 : Int)]) ∧ w' = W) :=
    Lib.hid (by rw [← hp1, ← hl1]; exact fun W => Tryd.bits_Mul64 ab 6346243789798364141 (by have := HAB.out; omega) (by decide) W)
  have HM2 : Hid (∀ W : World, Calls Tryd.prog 92 #[.int .u64 (ab : Int), .int .u64 1503914060200516822] W fun e w' => e = .returned (.tuple #[.int .u64 (p2 : Int), .int .u64 (l2 : Int)]) ∧ w' = W) :=
    Lib.hid (by rw [← hp2, ← hl2]; exact fun W => Tryd.bits_Mul64 ab 1503914060200516822 (by have := HAB.out; omega) (by decide) W)
  have g0 : ∀ W : World, (callFunc 56 #[.int .u64 (l2 : Int), .int .u64 (p1 : Int), .int .u64 0]).run Tryd.prog W = _ := fun W => add64_run l2 p1 0 (by omega) W
  obtain ⟨s, hs⟩ : ∃ s, (l2 + p1 + 0) % 18446744073709551616 = s := ⟨_, rfl⟩
  obtain ⟨u, hu⟩ : ∃ c, (l2 + p1 + 0) / 18446744073709551616 = c := ⟨_, rfl⟩
  rw [hs, hu] at g0
  obtain ⟨h, hh⟩ : ∃ x, p2 + u = x := ⟨_, rfl⟩
  have hab := HAB.out
  have hwr : IntKind.u64.wrap ((p2 : Int) + (u : Int)) = (h : Int) := by rw [IntKind.wrap_u64]; omega
  have HI : Hid (IsW (.agg #[.int .u64 (l1 : Int), .int .u64 (s : Int), .int .u64 (h : Int), .int .u64 0]) (ab * EX)) :=
    Lib.hid ⟨l1, s, h, 0, rfl, by omega, by omega, by omega, by omega, by unfold EX; omega⟩
  obtain ⟨xv, hxv⟩ : ∃ x, y0 + 2 ^ 64 * y1 + 2 ^ 128 * y2 + 2 ^ 192 * y3 = x := ⟨_, rfl⟩
  have HY : Hid (IsW (.agg #[.int .u64 (y0 : Int), .int .u64 (y1 : Int), .int .u64 (y2 : Int), .int .u64 (y3 : Int)]) xv) :=
    Lib.hid (by obtain ⟨_, e1, e2, e3, e4⟩ := HX.out; exact ⟨y0, y1, y2, y3, rfl, e1, e2, e3, by omega, hxv⟩)
  have hexl : ab * EX < LO := by unfold EX LO EX; omega
  have HMOD : Hid ((256 * n + c) % LO = if xv < ab * EX then xv + LO - ab * EX else xv - ab * EX) := Lib.hid (by
    obtain ⟨e0, e1, e2, e3, e4⟩ := HX.out
    exact push_mod (256 * n + c) ab xv (ab * EX) (by omega) rfl (by omega) hexl)
  have HXL : Hid (xv < 2 ^ 252 ∧ ab * EX < LO) := Lib.hid ⟨by obtain ⟨e0, e1, e2, e3, e4⟩ := HX.out; omega, hexl⟩
  clear hp1 hl1 hp2 hl2 hs hu hh hab hxv hexl
  go_wp2_with fail
  refine (HM1.out _).mono ?_
  rintro e w2 ⟨rfl, rfl⟩
  go_wp2_with fail
  refine (HM2.out _).mono ?_
  rintro e w2 ⟨rfl, rfl⟩
  have HRX := Lib.hid H1.out.2.1.rng
  go_wp2_with (refine wpList_load_mid rfl 67 _ rfl (w.heap.size + 1 + 1) 0 rfl (nu [y0, y1, y2, y3]) _ HRX.out Tryd.underlying67 rfl size4 ?_)
  refine (less_calls _ _ _ _ HY.out HI.out _).mono ?_
  rintro e w3 ⟨v3, rfl, hv3, b3⟩
  have HV3 := Lib.hid hv3
  obtain ⟨dv, rfl, hdl, hone⟩ := hv3.form
  obtain ⟨th, hb12, b12⟩ := laid4 w3 dv hdl
  have hw := H1.out.2.2.then_ b3
  have HL := Lib.hid (And.intro hb12 (And.intro ((H1.out.1.later b3).later b12) (hw.then_ b12)))
  have HTH := Lib.hid th
  have H12 : Hid (w.heap.size + 1 + 1 < w3.heap.size) := Lib.hid (H1.out.2.1.later b3).lt
  have HS := Lib.hid (size4a dv hdl)
  have HO := Lib.hid hone
  have HSL := Lib.hid (size4u dv hdl)
  clear hv3 hone th hb12 b12 hw b3 HRX H1 g0 hwr
  go_upto_region 7 with (refine wpList_store_mid rfl 67 _ _ rfl w3.heap.size 0 dv.toArray rfl rfl HTH.out HS.out HO.out ?_)
  obtain ⟨g, hg⟩ : ∃ g, w3.heap.size = g := ⟨_, rfl⟩
  rw [hg] at HL ⊢
  refine wp_gen (fun W => Blk W g 67 dv ∧ Blk W (w.heap.size + 1) 67 (nu [0, 0, 0, 0]) ∧ Below w.heap.size w W) HL.out ?_
  rintro W4 h4
  have hne : g ≠ w.heap.size + 1 := by
    intro e
    have h1 := h4.1
    have h2 := h4.2.1
    have := H12.out
    omega
  have hgw : w.heap.size ≤ g := by have := H12.out; omega
  have H4 := Lib.hid h4
  have HRG := Lib.hid h4.1.rng
  have HRO := Lib.hid (HT.out.later h4.2.2).1
  clear h4 HL HTH hg
  by_cases hlt : xv < ab * EX
  · have hd : decide (xv < ab * EX) = true := decide_eq_true hlt
    go_wp2_with (first
      | (refine wpList_load_mid rfl 67 _ rfl g 0 rfl dv _ HRG.out Tryd.underlying67 rfl HSL.out ?_)
      | (refine wpList_load_mid rfl 67 _ rfl 0 0 rfl (us KS) _ HRO.out Tryd.underlying67 rfl size4 ?_))
    refine (and_calls _ _ _ _ HV3.out order_is _).mono ?_
    rintro e w5 ⟨v5, rfl, hv5, b5⟩
    have hres : (subV xv (ab * EX) + LO) % 2 ^ 256 = (256 * n + c) % LO := by
      rw [HMOD.out, if_pos hlt]
      unfold subV
      rw [if_pos hlt]
      have := HXL.out
      have hlo : LO < 2 ^ 253 := by decide +kernel
      omega
    rw [hres] at hv5
    have HV5 := Lib.hid hv5
    obtain ⟨ev, rfl, hel, hone⟩ := hv5.form
    have hg5 := H4.out.1.later b5
    have hz5 := H4.out.2.1.later b5
    have hb5 := H4.out.2.2.then_ b5
    have hE := hg5.setAll (vs := ev) (by rw [hel, hdl])
    have hZ := hz5.setFar hne 0 ev
    have HT1 := Lib.hid (hg5.there (n := ev.toArray.size) (by rw [List.size_toArray, hel, hdl]))
    have HR2 := Lib.hid hE.rng
    have HT2 := Lib.hid (hZ.there (n := ev.toArray.size) (by rw [List.size_toArray, hel]; rfl))
    have HF := Lib.hid (Blk.load (hZ.setAll (vs := ev) (by rw [hel]; rfl)) 67 Tryd.underlying67 rfl (size4u ev hel))
    have HB := Lib.hid (blw_cells (show w.heap.size ≤ w.heap.size + 1 by omega) ev 0 _ (blw_cells hgw ev 0 _ hb5))
    have HS2 := Lib.hid (size4a ev hel)
    have HSL2 := Lib.hid (size4u ev hel)
    have HO2 := Lib.hid hone
    clear hv5 hone hg5 hz5 hb5 hE hZ b5 hres
    go_wp2_with (first
      | (refine wpList_store_mid rfl 67 _ _ rfl g 0 ev.toArray rfl rfl HT1.out HS2.out HO2.out ?_)
      | (refine wpList_load_mid rfl 67 _ rfl g 0 rfl ev _ HR2.out Tryd.underlying67 rfl HSL2.out ?_)
      | (refine wpList_store_mid rfl 67 _ _ rfl (w.heap.size + 1) 0 ev.toArray rfl rfl HT2.out HS2.out HO2.out ?_))
    exact bodyPost_ret (v := .agg ev.toArray) (res_cell rfl _ _ _ _ rfl HF.out) rfl ⟨_, rfl, HV5.out, HB.out⟩
  · have hd : decide (xv < ab * EX) = false := decide_eq_false hlt
    have hres : subV xv (ab * EX) = (256 * n + c) % LO := by
      rw [HMOD.out, if_neg hlt]
      unfold subV
      rw [if_neg hlt]
    have HV5 : Hid (IsW (.agg dv.toArray) ((256 * n + c) % LO)) := Lib.hid (by rw [← hres]; exact HV3.out)
    have HT2 := Lib.hid (H4.out.2.1.there (n := dv.toArray.size) (by rw [List.size_toArray, hdl]; rfl))
    have HF := Lib.hid (Blk.load (H4.out.2.1.setAll (vs := dv) (by rw [hdl]; rfl)) 67 Tryd.underlying67 rfl (size4u dv hdl))
    have HB := Lib.hid (blw_cells (show w.heap.size ≤ w.heap.size + 1 by omega) dv 0 _ H4.out.2.2)
    clear hres
    go_wp2_with (first
      | (refine wpList_load_mid rfl 67 _ rfl g 0 rfl dv _ HRG.out Tryd.underlying67 rfl HSL.out ?_)
      | (refine wpList_store_mid rfl 67 _ _ rfl (w.heap.size + 1) 0 dv.toArray rfl rfl HT2.out HS.out HO.out ?_))
    exact bodyPost_ret (v := .agg dv.toArray) (res_cell rfl _ _ _ _ rfl HF.out) rfl ⟨_, rfl, HV5.out, HB.out⟩
end Go.Proofs.YtkfdclnaaphdgaaDoor.Sc
