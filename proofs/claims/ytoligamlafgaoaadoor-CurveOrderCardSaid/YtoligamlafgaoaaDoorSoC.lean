/- Layer 5: a number's bytes; a byte more. -/
import Derived.Test.YtoligamlafgaoaaDoorSoB
namespace Go.Proofs.YtoligamlafgaoaaDoor.Sc
open Go.Proofs.YtoligamlafgaoaaDoor
open Go.ChangeShapes Go.WideShapes Go.ChangeAt Go.RowKit Go.IntWalk
set_option linter.unusedVariables false

/-- The first k bytes are there. -/
def outF (N k : Nat) : List UInt8 := (leB 32 N).take k ++ List.replicate (32 - k) 0
theorem outF_step (N k : Nat) (hk : k < 32) : (outF N k).set k (byteF N k) = outF N (k + 1) := by
  unfold outF
  have hm : ((leB 32 N).take k).length = k := by rw [List.length_take, leB_len]; omega
  rw [List.set_append, hm, if_neg (by omega), Nat.sub_self, show 32 - k = (32 - (k + 1)) + 1 by omega, List.replicate_succ, List.set_cons_zero, List.take_add_one, leB_get 32 N k hk]
  simp
theorem outF_full (N : Nat) : outF N 32 = leB 32 N := by
  unfold outF
  rw [List.take_of_length_le (by rw [leB_len]; exact Nat.le_refl _)]; simp
theorem outF_zero (N : Nat) : outF N 0 = List.replicate 32 0 := by simp [outF]
theorem outF_len (N k : Nat) (hk : k ≤ 32) : (outF N k).length = 32 := by simp [outF, leB_len]; omega
/-- A byte of a number, out of its word. -/
theorem byte_word (N a b c d k j x : Nat) (ha : a < 2 ^ 64) (hb : b < 2 ^ 64) (hc : c < 2 ^ 64) (hd : d < 2 ^ 64) (hN : a + 2 ^ 64 * b + 2 ^ 128 * c + 2 ^ 192 * d = N) (hk : k < 32) (hj : k / 8 = j) (hx : [a, b, c, d][j]? = some x) :
    ((x / 2 ^ (8 * (k % 8)) % 256 : Nat) : Int) = ((byteF N k).toNat : Int) := by
  have key : x / 2 ^ (8 * (k % 8)) % 256 = N / 256 ^ k % 256 := by
    obtain ⟨r, hr⟩ : ∃ r, k % 8 = r := ⟨_, rfl⟩
    have hkr : k = 8 * j + r := by omega
    have e1 : (256 : Nat) ^ k = 2 ^ (64 * j) * 2 ^ (8 * r) := by rw [show (256 : Nat) = 2 ^ 8 from rfl, ← Nat.pow_mul, ← Nat.pow_add]; congr 1; omega
    rw [hr, e1, ← Nat.div_div_eq_div_mul]
    have hw : N / 2 ^ (64 * j) % 2 ^ 64 = x := by
      have hj4 : j = 0 ∨ j = 1 ∨ j = 2 ∨ j = 3 := by omega
      rcases hj4 with rfl | rfl | rfl | rfl <;> simp at hx <;> subst hx <;> omega
    rw [← hw]
    generalize N / 2 ^ (64 * j) = y
    have hr8 : r = 0 ∨ r = 1 ∨ r = 2 ∨ r = 3 ∨ r = 4 ∨ r = 5 ∨ r = 6 ∨ r = 7 := by omega
    rcases hr8 with rfl | rfl | rfl | rfl | rfl | rfl | rfl | rfl <;> omega
  rw [key]
  unfold byteF
  simp
def BPost (n : Nat) (w : World) (e : Ending) (w' : World) : Prop := e = .returned (A32 (leB 32 n)) ∧ Below w.heap.size w w'
def ByS (ls : List Nat) (n : Nat) (w : World) (k : Nat) (wr : World) : Prop := Blk wr (w.heap.size + 1 + 1) 22 (u8b (outF n k)) ∧ Blk wr w.heap.size 79 (nu ls) ∧ Blk wr (w.heap.size + 1) 22 (u8b (List.replicate 32 0)) ∧ Below w.heap.size w wr
theorem ByS.drewN {ls : List Nat} {n k : Nat} {w wr : World} (h : ByS ls n w k wr) (q : Nat) : ByS ls n w k (wr.drewN q) := ⟨h.1.drewN q, h.2.1.drewN q, h.2.2.1.drewN q, h.2.2.2.drewN q⟩
set_option maxRecDepth 100000 in
set_option maxHeartbeats 4000000 in
theorem bytes_calls (v : Value) (n : Nat) (hv : IsW v n) (w : World) :
    Calls Tryd.prog 56 #[v] w (BPost n w) := by
  obtain ⟨a, b, c, d, rfl, ha, hb, hc, hd, hn⟩ := hv
  unfold V4
  have hal := alloc3 w (nu [a, b, c, d]) (u8b (List.replicate 32 0)) (u8b (List.replicate 32 0)) 79 22 22
  have H0 : Hid (ByS [a, b, c, d] n w 0 (((w.alloc (.cells #[.int .u64 (a : Int), .int .u64 (b : Int), .int .u64 (c : Int), .int .u64 (d : Int)] 79)).alloc (.cells #[.int .u8 0, .int .u8 0, .int .u8 0, .int .u8 0, .int .u8 0, .int .u8 0, .int .u8 0, .int .u8 0, .int .u8 0, .int .u8 0, .int .u8 0, .int .u8 0, .int .u8 0, .int .u8 0, .int .u8 0, .int .u8 0, .int .u8 0, .int .u8 0, .int .u8 0, .int .u8 0, .int .u8 0, .int .u8 0, .int .u8 0, .int .u8 0, .int .u8 0, .int .u8 0, .int .u8 0, .int .u8 0, .int .u8 0, .int .u8 0, .int .u8 0, .int .u8 0] 22)).alloc (.cells #[.int .u8 0, .int .u8 0, .int .u8 0, .int .u8 0, .int .u8 0, .int .u8 0, .int .u8 0, .int .u8 0, .int .u8 0, .int .u8 0, .int .u8 0, .int .u8 0, .int .u8 0, .int .u8 0, .int .u8 0, .int .u8 0, .int .u8 0, .int .u8 0, .int .u8 0, .int .u8 0, .int .u8 0, .int .u8 0, .int .u8 0, .int .u8 0, .int .u8 0, .int .u8 0, .int .u8 0, .int .u8 0, .int .u8 0, .int .u8 0, .int .u8 0, .int .u8 0] 22))) :=
    Lib.hid ⟨by rw [outF_zero]; exact hal.2.2.1, hal.1, hal.2.1, hal.2.2.2⟩
  clear hal
  go_enter Tryd.func56, Tryd.ntmps56
  go_wp2_with fail
  go_loopw [5] (fun i wr => ∃ k : Nat, k ≤ 32 ∧ i = .int .i64 (k : Int) ∧ ByS [a, b, c, d] n w k wr) (fun i _ => 32 - (intOf i).toNat)
  case atStart => exact ⟨0, by omega, rfl, H0.out⟩
  case round =>
    clear H0
    obtain ⟨k, hk, rfl, hu, hz, hzz, hbw⟩ := hrel
    by_cases hp : k < 32
    · have hk8 : (k : Int) / 8 = ((k / 8 : Nat) : Int) := by omega
      obtain ⟨j, hj⟩ : ∃ j, k / 8 = j := ⟨_, rfl⟩
      rw [hj] at hk8
      have hjl : j < 4 := by omega
      obtain ⟨x, hx⟩ : ∃ x, [a, b, c, d][j]? = some x := ⟨_, List.getElem?_eq_getElem (show j < [a, b, c, d].length from hjl)⟩
      have hcell := hz.cell (nu_at hx)
      have hbyte := byte_word n a b c d k j x ha hb hc hd hn hp hj hx
      have hlen : k < (u8b (outF n k)).length := by rw [u8b_len, outF_len n k hk]; exact hp
      obtain ⟨ov, hov⟩ : ∃ v, (u8b (outF n k))[k]? = some v := ⟨_, List.getElem?_eq_getElem hlen⟩
      have hold := hu.cell hov
      have hfr := hu.frozen k
      have hu2 := hu.set_ k (.int .u8 ((byteF n k).toNat : Int))
      rw [u8b_set, outF_step n k hp] at hu2
      have HB2 : Hid (ByS [a, b, c, d] n w (k + 1) (wr.setCell ⟨w.heap.size + 1 + 1, k, none⟩ (.int .u8 ((byteF n k).toNat : Int)))) := Lib.hid ⟨hu2, hz.other (by omega) _, hzz.other (by omega) _, hbw.setCell (by show w.heap.size ≤ w.heap.size + 1 + 1; omega) _⟩
      obtain ⟨y, hy⟩ : ∃ y, ((byteF n k).toNat : Int) = y := ⟨_, rfl⟩
      rw [hy] at hbyte HB2
      obtain ⟨r, hr⟩ : ∃ r, k % 8 = r := ⟨_, rfl⟩
      rw [hr] at hbyte
      have hr8 : (k : Int) % 8 = (r : Int) := by omega
      have hrl : r < 8 := by omega
      have hcv : IntKind.u8.wrap ((x : Int) / 2 ^ (8 * r)) = y := by
        rw [← hbyte, IntKind.wrap_u8, Int.natCast_emod, Int.natCast_ediv, Int.natCast_pow]; rfl
      clear hu hz hzz hbw hu2 hx hbyte hlen hov hy hj hr
      go_wp2_with fail
      exact ⟨⟨k + 1, by omega, by go_num, HB2.out⟩, by simp [intOf]; omega⟩
    · obtain rfl : k = 32 := by omega
      rw [outF_full] at hu
      have HRF := Lib.hid hu.rng
      have HTH := Lib.hid (hzz.there (n := (u8b (leB 32 n)).toArray.size) (by simp [u8b_len, leB_len]))
      have hz2 := hzz.setAll (vs := u8b (leB 32 n)) (by simp [u8b_len, leB_len])
      have HZ2 := Lib.hid (Blk.load hz2 22 Tryd.underlying22 rfl (size32u _ (leB_len _ _)))
      have HB2 := Lib.hid (blw_cells (show w.heap.size ≤ w.heap.size + 1 by omega) (u8b (leB 32 n)) 0 _ hbw)
      have HO : Hid ((u8b (leB 32 n)).toArray.all (·.oneCell') = true) := Lib.hid (one8b _)
      have HG : Hid ((Tryd.prog.info? 22).map (·.size) = some (u8b (leB 32 n)).length) := Lib.hid (size32u _ (leB_len _ _))
      have HG2 : Hid ((Tryd.prog.info? 22).map (·.size) = some (u8b (leB 32 n)).toArray.size) := Lib.hid (by simpa using size32u _ (leB_len 32 n))
      obtain ⟨dv, hdv⟩ : ∃ d, u8b (leB 32 n) = d := ⟨_, rfl⟩
      rw [hdv] at HRF HTH HZ2 HB2 HO HG HG2
      have HDV := Lib.hid hdv
      clear hu hz hzz hbw hz2 hdv
      go_wp2_with (first
        | (refine wpList_load_mid rfl 22 _ rfl (w.heap.size + 1 + 1) 0 rfl dv _ HRF.out Tryd.underlying22 rfl HG.out ?_)
        | (refine wpList_store_mid rfl 22 _ _ rfl (w.heap.size + 1) 0 dv.toArray rfl rfl HTH.out HG2.out HO.out ?_))
      exact bodyPost_ret (v := .agg dv.toArray) (res_cell rfl _ _ _ _ rfl HZ2.out) rfl ⟨by unfold A32; rw [HDV.out], HB2.out⟩
end Go.Proofs.YtoligamlafgaoaaDoor.Sc
