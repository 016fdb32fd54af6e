/- Layer 3: how long all was, walked. -/
import Derived.Test.YtjdgccgpkmimkaaDoorDhE
namespace Go.Proofs.YtjdgccgpkmimkaaDoor
open Go.ChangeShapes Go.WideShapes Go.ChangeAt Go.RowKit Go.IntWalk
set_option linter.unusedVariables false

def tailP (n k : Nat) : List UInt8 := (List.range 16).map fun j => if 15 - j < k then UInt8.ofNat (8 * n / 256 ^ (15 - j) % 256) else 0
theorem tailP_len (n k : Nat) : (tailP n k).length = 16 := by simp [tailP]
theorem tailP_zero (n : Nat) : tailP n 0 = List.replicate 16 0 := by unfold tailP; simp; rfl
theorem tailP_step (n k : Nat) (hk : k < 8) : (tailP n k).set (15 - k) (UInt8.ofNat (8 * n / 256 ^ k % 256)) = tailP n (k + 1) := by
  apply List.ext_getElem?
  intro j
  rw [List.getElem?_set]
  by_cases hr : j < 16
  · simp only [tailP, List.getElem?_map, List.getElem?_range hr, Option.map_some, List.length_map, List.length_range]
    by_cases hj : 15 - k = j
    · subst hj
      rw [if_pos rfl, if_pos hr, if_pos (by omega), show 15 - (15 - k) = k by omega]
    · rw [if_neg hj]
      by_cases h2 : 15 - j < k
      · rw [if_pos h2, if_pos (by omega)]
      · rw [if_neg h2, if_neg (by omega)]
  · rw [List.getElem?_eq_none (by rw [tailP_len]; omega), List.getElem?_eq_none (by rw [tailP_len]; omega), tailP_len]
    split
    · rw [if_neg (by omega)]
    · rfl
theorem tailP_full (n : Nat) (h : n < 2 ^ 40) : tailP n 8 = tailF n := by
  unfold tailP tailF
  apply List.map_congr_left
  intro j hj
  have hj2 := List.mem_range.1 hj
  by_cases h2 : 15 - j < 8
  · rw [if_pos h2]
  · rw [if_neg h2]
    have h3 : 8 * n / 256 ^ (15 - j) = 0 := by
      apply Nat.div_eq_of_lt
      exact Nat.lt_of_lt_of_le (show 8 * n < 256 ^ 8 by omega) (Nat.pow_le_pow_right (by decide) (by omega))
    rw [h3]; rfl
theorem sizeTs : (Tryd.prog.info? 47).map (·.size) = some 16 := by kernel_rfl
theorem u8b_set (bs : List UInt8) (k : Nat) (c : UInt8) : (u8b bs).set k (.int .u8 (c.toNat : Int)) = u8b (bs.set k c) := by simp [u8b, List.map_set]
theorem one8b (bs : List UInt8) : (u8b bs).toArray.all (·.oneCell') = true := by
  apply all_oneCell_toArray
  intro v hv
  obtain ⟨y, _, rfl⟩ := List.mem_map.1 hv
  rfl
theorem u8v (m : Nat) : ((m % 256 : Nat) : Int) = ((UInt8.ofNat (m % 256)).toNat : Int) := by simp
theorem len_byte (n k : Nat) : (n : Int) * 8 / 2 ^ (8 * k) % 256 = ((8 * n / 256 ^ k % 256 : Nat) : Int) := by
  rw [Int.natCast_emod, Int.natCast_ediv, Int.natCast_mul, Int.natCast_pow, Int.pow_mul, Int.mul_comm]; rfl
theorem set_same {α : Type} {l : List α} {k : Nat} {v : α} (h : l[k]? = some v) : l.set k v = l := by
  apply List.ext_getElem?
  intro j
  rw [List.getElem?_set]
  by_cases hj : k = j
  · subst hj; rw [if_pos rfl, if_pos (List.getElem?_eq_some_iff.1 h).1, h]
  · rw [if_neg hj]
def LnS (n : Nat) (w : World) (k : Nat) (wr : World) : Prop := Blk wr (w.heap.size + 1) 47 (u8b (tailP n k)) ∧ Blk wr w.heap.size 47 (u8b (List.replicate 16 0)) ∧ Below w.heap.size w wr
set_option maxRecDepth 100000 in
set_option maxHeartbeats 4000000 in
theorem length_calls (n : Nat) (hn : n < 2 ^ 40) (w : World) :
    Calls Tryd.prog 17 #[.int .u64 (n : Int)] w fun e w' => e = .returned (.agg (u8b (tailF n)).toArray) ∧ Below w.heap.size w w' := by
  go_enter Tryd.func17, Tryd.ntmps17
  go_upto_region 2 with (fail)
  refine wp_gen (LnS n w 0) ?_ ?_
  · obtain ⟨h1, h2, h3⟩ := alloc2 w (u8b (List.replicate 16 0)) (u8b (List.replicate 16 0)) 47 47
    exact ⟨by rw [tailP_zero]; exact h2, h1, h3⟩
  intro W1 hs1
  have HS1 := Lib.hid hs1
  clear hs1
  go_wp2_with fail
  go_loopw [5] (fun i wr => ∃ k : Nat, k ≤ 8 ∧ i = .int .i64 (k : Int) ∧ LnS n w k wr) (fun i _ => 8 - (intOf i).toNat)
  case atStart => exact ⟨0, by omega, rfl, HS1.out⟩
  case round =>
    obtain ⟨k, hk, rfl, hu, hz, hbw⟩ := hrel
    by_cases hp : k < 8
    · obtain ⟨d, hd⟩ : ∃ d, 15 - k = d := ⟨_, rfl⟩
      have hkd : IntKind.i64.wrap (15 - (k : Int)) = (d : Int) := (IntWalk.i64_in _ (by omega)).trans (by omega)
      have hdl : d < 16 := by omega
      obtain ⟨y, hy⟩ : ∃ y, (u8b (tailP n k))[d]? = some y := ⟨_, List.getElem?_eq_getElem (by rw [u8b_len, tailP_len]; omega)⟩
      have c1 := hu.cell hy
      have f1 := hu.frozen d
      have HU := Lib.hid (And.intro hu (And.intro hz hbw))
      have HD := Lib.hid hd
      clear hu hz hbw hy hd
      go_wp2_with fail
      refine ⟨⟨k + 1, by omega, by go_num, ?_⟩, by simp [intOf]; omega⟩
      rw [len_byte n k, u8v (8 * n / 256 ^ k)]
      refine ⟨?_, HU.out.2.1.other (by omega) _, HU.out.2.2.setCell (by show w.heap.size ≤ w.heap.size + 1; omega) _⟩
      have h := HU.out.1.set_ d (.int .u8 ((UInt8.ofNat (8 * n / 256 ^ k % 256)).toNat : Int))
      rw [u8b_set, ← HD.out, tailP_step n k hp] at h
      rw [← HD.out]
      exact h
    · obtain rfl : k = 8 := by omega
      rw [show ((8 : Nat) : Int) = (8 : Int) from rfl]
      have h70 : (u8b (tailP n 8))[7]? = some (.int .u8 (((0 : UInt8).toNat : Nat) : Int)) := u8b_at (by simp [tailP])
      have c7 := hu.cell h70
      have f7 := hu.frozen 7
      have hu7 := hu.set_ 7 (.int .u8 ((n : Int) / 2305843009213693952))
      rw [show (u8b (tailP n 8)).set 7 (.int .u8 ((n : Int) / 2305843009213693952)) = u8b (tailP n 8) from by rw [show (n : Int) / 2305843009213693952 = (((0 : UInt8).toNat : Nat) : Int) by show _ = (0 : Int); omega]; exact set_same h70] at hu7
      have hz := hz.other (g2 := w.heap.size + 1) (k := 7) (by omega) (.int .u8 ((n : Int) / 2305843009213693952))
      have hbw := hbw.setCell (p := ⟨w.heap.size + 1, 7, none⟩) (by show w.heap.size ≤ w.heap.size + 1; omega) (.int .u8 ((n : Int) / 2305843009213693952))
      have hu := hu7
      have HCF := Lib.hid (And.intro c7 f7)
      clear h70 c7 f7 hu7
      rw [tailP_full n hn] at hu
      have hlen : (u8b (tailF n)).length = 16 := by rw [u8b_len, tailF_len]
      obtain ⟨fs, hfs⟩ : ∃ fs, u8b (tailF n) = fs := ⟨_, rfl⟩
      have hone : fs.toArray.all (·.oneCell') = true := by rw [← hfs]; exact one8b _
      rw [hfs] at hu hlen
      have hsz : (Tryd.prog.info? 47).map (·.size) = some fs.length := by rw [hlen]; exact sizeTs
      have HRF := Lib.hid hu.rng
      have HTH := Lib.hid (hz.there (n := fs.toArray.size) (by simp [hlen, u8b_len]))
      have HZ2 := Lib.hid (Blk.load (hz.setAll (vs := fs) (by simp [hlen, u8b_len])) 47 Tryd.underlying47 rfl hsz)
      have HB2 := Lib.hid (blw_cells (Nat.le_refl _) fs 0 _ hbw)
      have HO := Lib.hid hone
      have HZF := Lib.hid hsz
      have HZG : Hid ((Tryd.prog.info? 47).map (·.size) = some fs.toArray.size) := Lib.hid (by simpa using hsz)
      have HFS := Lib.hid hfs
      clear hu hz hbw hlen hfs hone hsz
      have c7 := HCF.out.1
      have f7 := HCF.out.2
      go_wp2_with (first
        | (refine wpList_load_mid rfl 47 _ rfl (w.heap.size + 1) 0 rfl fs _ HRF.out Tryd.underlying47 rfl HZF.out ?_)
        | (refine wpList_store_mid rfl 47 _ _ rfl w.heap.size 0 fs.toArray rfl rfl HTH.out HZG.out HO.out ?_))
      exact bodyPost_ret (v := .agg fs.toArray) (res_cell rfl _ _ _ _ rfl HZ2.out) rfl ⟨by rw [HFS.out], HB2.out⟩
end Go.Proofs.YtjdgccgpkmimkaaDoor
