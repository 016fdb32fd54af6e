/- Layer 3: a block's words, walked. -/
import Derived.Test.YtjdgccgpkmimkaaDoorDhB
import Derived.Test.YtjdgccgpkmimkaaDoorLg
import Derived.Deep.DeepCutAuto
import Derived.StillTailTactics
namespace Go.Proofs.YtjdgccgpkmimkaaDoor
open Go.ChangeShapes Go.WideShapes Go.ChangeAt Go.RowKit Go.IntWalk
set_option linter.unusedVariables false

def us (ds : List Int) : List Value := ds.map (Value.int .u64)
def u8b (bs : List UInt8) : List Value := bs.map fun c => Value.int .u8 (c.toNat : Int)
theorem us_at {ds : List Int} {k : Nat} {n : Int} (h : ds[k]? = some n) : (us ds)[k]? = some (.int .u64 n) := by simp [us, h]
theorem u8b_at {bs : List UInt8} {k : Nat} {c : UInt8} (h : bs[k]? = some c) : (u8b bs)[k]? = some (.int .u8 (c.toNat : Int)) := by simp [u8b, h]
theorem us_set (ds : List Int) (k : Nat) (n : Int) : (us ds).set k (.int .u64 n) = us (ds.set k n) := by simp [us, List.map_set]
theorem sizeBlk : (Tryd.prog.info? 43).map (·.size) = some 128 := by kernel_rfl
theorem sizeRn : (Tryd.prog.info? 51).map (·.size) = some 80 := by kernel_rfl
theorem idxBlk (cs : List Value) (k : Nat) (hk : k < 128) (v : Value) (hv : cs[k]? = some v) (W : World) :
    (Instr.index 43 (.agg cs.toArray) (.int .i64 (k : Int))).run Tryd.prog W = .ok v W := by
  have h32 : 0 ≤ (k : Int) ∧ (k : Int) < (128 : Nat) := by omega
  simp [Instr.index, run_underlying Tryd.underlying43, asIntOf, go_sem, hv, hk]
theorem or_byte (n c : Nat) (hn : n < 2 ^ 56) (hc : c < 256) : bits .or .u64 (IntKind.u64.wrap ((n : Int) * 256)) (IntKind.u64.wrap (c : Int)) = ((n * 256 + c : Nat) : Int) := by
  rw [wrapU_eq, wrapU_eq]
  have e : (n : Int) * 256 % 18446744073709551616 = ((n * 256 : Nat) : Int) := by omega
  have e2 : (c : Int) % 18446744073709551616 = (c : Int) := by omega
  rw [e, e2, (bits_nat .u64 64 (by decide) (fun n h0 h1 => by rw [wrapU_eq]; omega) _ _ (by omega) (by omega)).2]
  congr 1
  have h2 := Nat.shiftLeft_add_eq_or_of_lt (i := 8) (b := c) (by omega) n
  rw [Nat.shiftLeft_eq] at h2
  exact h2.symm
theorem zeroRn (w : World) : (zeroValue 51).run Tryd.prog w = .ok (.agg #[.int .u64 0, .int .u64 0, .int .u64 0, .int .u64 0, .int .u64 0, .int .u64 0, .int .u64 0, .int .u64 0, .int .u64 0, .int .u64 0, .int .u64 0, .int .u64 0, .int .u64 0, .int .u64 0, .int .u64 0, .int .u64 0, .int .u64 0, .int .u64 0, .int .u64 0, .int .u64 0, .int .u64 0, .int .u64 0, .int .u64 0, .int .u64 0, .int .u64 0, .int .u64 0, .int .u64 0, .int .u64 0, .int .u64 0, .int .u64 0, .int .u64 0, .int .u64 0, .int .u64 0, .int .u64 0, .int .u64 0, .int .u64 0, .int .u64 0, .int .u64 0, .int .u64 0, .int .u64 0, .int .u64 0, .int .u64 0, .int .u64 0, .int .u64 0, .int .u64 0, .int .u64 0, .int .u64 0, .int .u64 0, .int .u64 0, .int .u64 0, .int .u64 0, .int .u64 0, .int .u64 0, .int .u64 0, .int .u64 0, .int .u64 0, .int .u64 0, .int .u64 0, .int .u64 0, .int .u64 0, .int .u64 0, .int .u64 0, .int .u64 0, .int .u64 0, .int .u64 0, .int .u64 0, .int .u64 0, .int .u64 0, .int .u64 0, .int .u64 0, .int .u64 0, .int .u64 0, .int .u64 0, .int .u64 0, .int .u64 0, .int .u64 0, .int .u64 0, .int .u64 0, .int .u64 0, .int .u64 0]) w := run_zero (by kernel_rfl) w
def SprS (bs : List UInt8) (w : World) (k : Nat) (wr : World) : Prop := Blk wr (w.heap.size + 1 + 1) 51 (us (pre bs k)) ∧ Blk wr (w.heap.size + 1) 51 (us (List.replicate 80 0)) ∧ Below w.heap.size w wr
def SprT (bs : List UInt8) (w : World) (n : Nat) (wr : World) : Prop := Blk wr (w.heap.size + 1 + 1) 51 (us (arrW bs n)) ∧ Blk wr (w.heap.size + 1) 51 (us (List.replicate 80 0)) ∧ Below w.heap.size w wr
set_option maxRecDepth 100000 in
set_option maxHeartbeats 4000000 in
theorem spread_calls (bs : List UInt8) (hl : bs.length = 128) (w : World) :
    Calls Tryd.prog 20 #[.agg (u8b bs).toArray] w fun e w' => e = .returned (.agg (us (wN bs 64)).toArray) ∧ Below w.heap.size w w' := by
  obtain ⟨cs, hcs⟩ : ∃ cs, u8b bs = cs := ⟨_, rfl⟩
  rw [hcs]
  have HCS := Lib.hid hcs
  have hsz : (Tryd.prog.info? 43).map (·.size) = some cs.length := by rw [← hcs]; simp [u8b, hl, sizeBlk]
  have HSZ := Lib.hid hsz
  clear hcs hsz
  have hz80 := zeroRn
  go_enter Tryd.func20, Tryd.ntmps20
  go_upto_region 2 with (fail)
  refine wp_gen (fun W1 => Blk W1 w.heap.size 43 cs ∧ SprS bs w 0 W1) ?_ ?_
  · obtain ⟨h1, h2, h3, h4⟩ := alloc3 w cs (us (List.replicate 80 0)) (us (List.replicate 80 0)) 43 51 51
    exact ⟨h1, by rw [pre_zero]; exact h3, h2, h4⟩
  rintro W1 ⟨hb1, hs1⟩
  have HR1 := Lib.hid hb1.rng
  have HS1 := Lib.hid hs1
  clear hb1 hs1
  go_wp2_with (refine wpList_load_mid rfl 43 _ rfl w.heap.size 0 rfl cs _ HR1.out Tryd.underlying43 rfl HSZ.out ?_)
  go_loopw [12] (fun i wr => ∃ k : Nat, k ≤ 128 ∧ i = .int .i64 (k : Int) ∧ SprS bs w k wr) (fun i _ => 128 - (intOf i).toNat)
  case atStart => exact ⟨0, by omega, rfl, HS1.out⟩
  case round =>
    obtain ⟨k, hk, rfl, hu, hz, hbw⟩ := hrel
    by_cases hp : k < 128
    · obtain ⟨c, hc⟩ : ∃ c, bs[k]? = some c := ⟨_, List.getElem?_eq_getElem (by omega)⟩
      have hix := fun W => idxBlk cs k hp _ (by rw [← HCS.out]; exact u8b_at hc) W
      obtain ⟨j, hj⟩ : ∃ j, k / 8 = j := ⟨_, rfl⟩
      have hk8 : (k : Int) / 8 = (j : Int) := by omega
      have hst := pre_step bs k c hc
      have hlt := seg_lt bs k j hj
      rw [hj] at hst
      have hj2 : j < 80 := by omega
      obtain ⟨n, hn⟩ : ∃ n, beN (seg bs k j) = n := ⟨_, rfl⟩
      have g1 := hu.cell (us_at (pre_at bs k j hj2))
      rw [hn] at g1 hlt hst
      have g2 := hu.frozen j
      have ho := or_byte n c.toNat hlt c.toNat_lt
      have hu2 := hu.set_ j (.int .u64 ((n * 256 + c.toNat : Nat) : Int))
      rw [us_set, ← hst] at hu2
      have HN : Hid (SprS bs w (k + 1) (wr.setCell ⟨w.heap.size + 1 + 1, j, none⟩ (.int .u64 ((n * 256 + c.toNat : Nat) : Int)))) := Lib.hid ⟨hu2, hz.other (by omega) _, hbw.setCell (by show w.heap.size ≤ w.heap.size + 1 + 1; omega) _⟩
      obtain ⟨y, hy⟩ : ∃ y, ((n * 256 + c.toNat : Nat) : Int) = y := ⟨_, rfl⟩
      rw [hy] at ho HN
      clear hc hst hu hz hbw hlt hu2 hn hj hy
      go_wp2_with fail
      exact ⟨⟨k + 1, by omega, by go_num, HN.out⟩, by simp [intOf]; omega⟩
    · obtain rfl : k = 128 := by omega
      rw [show ((128 : Nat) : Int) = (128 : Int) from rfl]
      rw [pre_full bs hl] at hu
      have HT : Hid (SprT bs w 0 wr) := Lib.hid ⟨hu, hz, hbw⟩
      clear hu hz hbw
      go_wp2_with fail
      go_loopw [6] (fun i wr => ∃ n m : Nat, n ≤ 64 ∧ m = n + 16 ∧ i = .int .i64 (m : Int) ∧ SprT bs w n wr) (fun i _ => 80 - (intOf i).toNat)
      case atStart => exact ⟨0, 16, by omega, rfl, rfl, HT.out⟩
      case round =>
        clear HT
        obtain ⟨n, m, hn, hm, rfl, hu, hz, hbw⟩ := hrel
        have HM := Lib.hid hm
        by_cases hp : m < 80
        · have hn2 : n < 64 := by omega
          obtain ⟨o1, h1⟩ : ∃ o, n + 1 = o := ⟨_, rfl⟩
          obtain ⟨o14, h14⟩ : ∃ o, n + 14 = o := ⟨_, rfl⟩
          obtain ⟨o9, h9⟩ : ∃ o, n + 9 = o := ⟨_, rfl⟩
          have s15 : IntKind.i64.wrap ((m : Int) - 15) = (o1 : Int) := (IntWalk.i64_in _ (by omega)).trans (by omega)
          have s2 : IntKind.i64.wrap ((m : Int) - 2) = (o14 : Int) := (IntWalk.i64_in _ (by omega)).trans (by omega)
          have s16 : IntKind.i64.wrap ((m : Int) - 16) = (n : Int) := (IntWalk.i64_in _ (by omega)).trans (by omega)
          have s7 : IntKind.i64.wrap ((m : Int) - 7) = (o9 : Int) := (IntWalk.i64_in _ (by omega)).trans (by omega)
          have b1 : o1 < 80 := by omega
          have b14 : o14 < 80 := by omega
          have b9 : o9 < 80 := by omega
          have b0 : n < 80 := by omega
          obtain ⟨x, hx⟩ : ∃ x, (wN bs n).getD o1 0 = x := ⟨_, rfl⟩
          obtain ⟨y, hy⟩ : ∃ y, (wN bs n).getD o14 0 = y := ⟨_, rfl⟩
          obtain ⟨p, hp0⟩ : ∃ x, (wN bs n).getD n 0 = x := ⟨_, rfl⟩
          obtain ⟨q, hq⟩ : ∃ x, (wN bs n).getD o9 0 = x := ⟨_, rfl⟩
          have ux : Hid (InU x) := Lib.hid (by rw [← hx]; exact wN_getD_inU _ _ _)
          have uy : Hid (InU y) := Lib.hid (by rw [← hy]; exact wN_getD_inU _ _ _)
          have c1 := hu.cell (us_at (arrW_at bs n o1 (by omega)))
          have c14 := hu.cell (us_at (arrW_at bs n o14 (by omega)))
          have c0 := hu.cell (us_at (arrW_at bs n n (by omega)))
          have c9 := hu.cell (us_at (arrW_at bs n o9 (by omega)))
          rw [hx] at c1
          rw [hy] at c14
          rw [hp0] at c0
          rw [hq] at c9
          have hw : Hid (wnext (wN bs n) = add (add (add p (sOf x)) q) (tOf y)) := Lib.hid (by
            unfold wnext
            rw [wN_len, show 16 + n - 16 = n by omega, show 16 + n - 15 = o1 by omega, show 16 + n - 7 = o9 by omega, show 16 + n - 2 = o14 by omega, hx, hy, hp0, hq])
          have HU := Lib.hid (And.intro hu (And.intro hz hbw))
          clear hx hy hp0 hq h1 h14 h9 hu hz hbw hm
          go_wp2_with fail
          go_quiet (fail)
          go_wp2_with fail
          refine (turned_any x 1 ux.out (by decide) (by decide) _).mono ?_
          rintro e wq ⟨rfl, rfl⟩
          go_wp2_with fail
          refine (turned_any x 8 ux.out (by decide) (by decide) _).mono ?_
          rintro e wq ⟨rfl, rfl⟩
          go_wp2_with fail
          refine (turned_any y 19 uy.out (by decide) (by decide) _).mono ?_
          rintro e wq ⟨rfl, rfl⟩
          go_wp2_with fail
          refine (turned_any y 61 uy.out (by decide) (by decide) _).mono ?_
          rintro e wq ⟨rfl, rfl⟩
          go_wp2_with fail
          refine wp_gen (fun W6 => (SprT bs w n W6 ∧ W6.cell? ⟨w.heap.size + 1 + 1, n, none⟩ = some (.int .u64 p)) ∧ W6.cell? ⟨w.heap.size + 1 + 1, o9, none⟩ = some (.int .u64 q)) ⟨⟨⟨HU.out.1.drewN _, HU.out.2.1.drewN _, HU.out.2.2.drewN _⟩, c0⟩, c9⟩ ?_
          clear c0 c9 c1 c14 HU
          rintro W6 ⟨⟨hs6, c0⟩, c9⟩
          have HS6 := Lib.hid hs6
          clear hs6
          have i0 : (0 : Int) ≤ (n : Int) ∧ (n : Int) < 80 := by omega
          have i9 : (0 : Int) ≤ (o9 : Int) ∧ (o9 : Int) < 80 := by omega
          have im : (0 : Int) ≤ (m : Int) ∧ (m : Int) < 80 := by omega
          go_still_tail 15, (by kernel_rfl)
          change wpList _ _ _ _ _ W6.drew
          have g2 : W6.drew.frozen? ⟨w.heap.size + 1 + 1, m, none⟩ = false := HS6.out.1.frozen m
          have g1 : W6.drew.cell? ⟨w.heap.size + 1 + 1, m, none⟩ = some (.int .u64 0) := HS6.out.1.cell (us_at (by
            unfold arrW
            rw [List.getElem?_append_right (by rw [wN_len, HM.out]; omega), wN_len, List.getElem?_replicate, if_pos (by omega)]))
          have hv : IntKind.u64.wrap (IntKind.u64.wrap (IntKind.u64.wrap (p + bits BinOp.xor IntKind.u64 (bits BinOp.xor IntKind.u64 (rotr x 1) (rotr x 8)) (x / 128)) + q) + bits BinOp.xor IntKind.u64 (bits BinOp.xor IntKind.u64 (rotr y 19) (rotr y 61)) (y / 64)) = wnext (wN bs n) := by
            rw [hw.out]
            rfl
          have HN : Hid (SprT bs w (n + 1) (W6.setCell ⟨w.heap.size + 1 + 1, m, none⟩ (.int .u64 (wnext (wN bs n)))).drew) := Lib.hid (by
            refine ⟨?_, (HS6.out.2.1.drew).other (by omega) _, (HS6.out.2.2.drewN 1).setCell (by show w.heap.size ≤ w.heap.size + 1 + 1; omega) _⟩
            have := HS6.out.1.drew.set_ m (.int .u64 (wnext (wN bs n)))
            rw [us_set, show m = 16 + n by rw [HM.out]; omega, arrW_step bs n hn2] at this
            rw [show m = 16 + n by rw [HM.out]; omega]
            exact this)
          rw [← hv] at HN
          clear hv
          have e1 : IntKind.i64.wrap ((m : Int) + 1) = (m : Int) + 1 := IntWalk.i64_in _ (by omega)
          go_wp2_with fail
          exact ⟨⟨n + 1, m + 1, by omega, by rw [HM.out], by go_num, HN.out⟩, by simp [intOf]; omega⟩
        · obtain rfl : n = 64 := by omega
          obtain rfl : m = 80 := by omega
          rw [show ((80 : Nat) : Int) = (80 : Int) from rfl]
          have he : arrW bs 64 = wN bs 64 := by unfold arrW; simp
          rw [he] at hu
          have hlen : (us (wN bs 64)).length = 80 := by simp [us, wN_len]
          obtain ⟨fs, hfs⟩ : ∃ fs, us (wN bs 64) = fs := ⟨_, rfl⟩
          have hone : fs.toArray.all (·.oneCell') = true := by rw [← hfs]; exact oneInts _ _
          rw [hfs] at hu hlen
          have hsz : (Tryd.prog.info? 51).map (·.size) = some fs.length := by rw [hlen]; exact sizeRn
          have HRF := Lib.hid hu.rng
          have HTH := Lib.hid (hz.there (n := fs.toArray.size) (by simp [hlen, us]))
          have HZ2 := Lib.hid (Blk.load (hz.setAll (vs := fs) (by simp [hlen, us])) 51 Tryd.underlying51 rfl hsz)
          have HB2 := Lib.hid (blw_cells (show w.heap.size ≤ w.heap.size + 1 by omega) fs 0 _ hbw)
          have HO := Lib.hid hone
          have HZF := Lib.hid hsz
          have HZG : Hid ((Tryd.prog.info? 51).map (·.size) = some fs.toArray.size) := Lib.hid (by simpa using hsz)
          have HFS := Lib.hid hfs
          clear hu hz hbw he hlen hfs hone hsz HM
          go_wp2_with (first
            | (refine wpList_load_mid rfl 51 _ rfl (w.heap.size + 1 + 1) 0 rfl fs _ HRF.out Tryd.underlying51 rfl HZF.out ?_)
            | (refine wpList_store_mid rfl 51 _ _ rfl (w.heap.size + 1) 0 fs.toArray rfl rfl HTH.out HZG.out HO.out ?_))
          exact bodyPost_ret (v := .agg fs.toArray) (res_cell rfl _ _ _ _ rfl HZ2.out) rfl ⟨by rw [HFS.out], HB2.out⟩
end Go.Proofs.YtjdgccgpkmimkaaDoor
