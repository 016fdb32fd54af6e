/- Layer 3: the document's state behind a block, walked. -/
import Derived.Test.YtjdgccgpkmimkaaDoorDhJ
namespace Go.Proofs.YtjdgccgpkmimkaaDoor
open Go.ChangeShapes Go.WideShapes Go.ChangeAt Go.RowKit Go.IntWalk
set_option linter.unusedVariables false

set_option maxRecDepth 100000 in
set_option maxHeartbeats 4000000 in
theorem next_calls (s : S8) (hs : s.InU) (bs : List UInt8) (hl : bs.length = 128) (As Ab Ak : Option Addr) (cs cb ck : Nat) (w : World) (hrs : RV w As (us s.list)) (hrb : RB w Ab bs) (hrk : RV w Ak (us KS)) :
    Calls Tryd.prog 15 #[.slice As 8 cs, .slice Ab 128 cb, .slice Ak 80 ck] w fun e w' => ∃ g, e = .returned (.slice (some ⟨g, 0, none⟩) 8 8) ∧ RV w' (some ⟨g, 0, none⟩) (us (comp s bs).list) ∧ Below w.heap.size w w' := by
  have HS := Lib.hid (And.intro hs (And.intro hrs hrk))
  obtain ⟨bb, ob, rfl, hbl⟩ := hrb.some (by omega)
  have HB := Lib.hid hrb
  clear hs hrs hrk hrb
  go_enter Tryd.func15, Tryd.ntmps15
  go_wp2_with fail
  go_loopw [7, 8] (fun v i wr => ∃ k : Nat, k ≤ 16 ∧ i = .int .i64 (k : Int) ∧ NxS ((w16 bs).take k) w v wr) (fun _ i _ => 16 - (intOf i).toNat)
  case atStart => exact ⟨0, by omega, rfl, OwnVs.nil _ _ _, Below.refl _ _⟩
  case round =>
    obtain ⟨k, hk, rfl, hnx⟩ := hrel
    by_cases hp : k < 16
    · have hrb := HB.out.below hnx.2
      have HN := Lib.hid hnx
      clear hnx
      go_wp2_with fail
      go_loop [9, 10] (fun x j => ∃ jn : Nat, jn ≤ 8 ∧ j = .int .i64 (jn : Int) ∧ x = .int .u64 ((beN ((bs.drop (8 * k)).take jn) : Nat) : Int)) (fun _ j => 8 - (intOf j).toNat)
      case atStart => exact ⟨0, by omega, rfl, rfl⟩
      case round =>
        obtain ⟨j, hj, rfl, rfl⟩ := hrel
        by_cases hq : j < 8
        · obtain ⟨i, hi⟩ : ∃ i, 8 * k + j = i := ⟨_, rfl⟩
          have hil : i < bs.length := by omega
          obtain ⟨c, hc⟩ : ∃ c, bs[i]? = some c := ⟨_, List.getElem?_eq_getElem hil⟩
          have hcell : wr.cell? ⟨bb, ob + i, none⟩ = some (.int .u8 (c.toNat : Int)) := by
            obtain ⟨b2, o2, h2, _, h3⟩ := hrb i hil
            injection h2 with h2; injection h2 with h4 h5
            subst h4; subst h5
            rw [h3]; simp [List.getD, hc]
          have hst := seg_step bs k j i c hi hc
          have HST := Lib.hid hst
          have e1 : IntKind.i64.wrap ((8 : Int) * (k : Int)) = 8 * (k : Int) := IntWalk.i64_in _ (by omega)
          have e2 : IntKind.i64.wrap ((8 : Int) * (k : Int) + (j : Int)) = (i : Int) := (IntWalk.i64_in _ (by omega)).trans (by omega)
          have e3 : ((8 : Int) * (k : Int) + (j : Int)) = (i : Int) := by omega
          obtain ⟨n, hn⟩ : ∃ n, beN ((bs.drop (8 * k)).take j) = n := ⟨_, rfl⟩
          rw [hn]
          clear hst hc hi hrb
          go_wp2_with fail
          refine ⟨⟨j + 1, by omega, by go_num, ?_⟩, by simp [intOf]; omega⟩
          congr 1
          have hlt := beN_lt ((bs.drop (8 * k)).take (j + 1))
          have hll : ((bs.drop (8 * k)).take (j + 1)).length ≤ 8 := by rw [List.length_take]; omega
          have hp2 : 256 ^ ((bs.drop (8 * k)).take (j + 1)).length ≤ 256 ^ 8 := Nat.pow_le_pow_right (by decide) hll
          rw [HST.out, beN_snoc, hn] at hlt
          rw [HST.out] at hp2
          rw [HST.out, beN_snoc, hn]
          have hcl := c.toNat_lt
          simp only [wrapU_eq]
          omega
        · obtain rfl : j = 8 := by omega
          rw [show ((8 : Nat) : Int) = (8 : Int) from rfl]
          have hw := w16_at bs k hp
          obtain ⟨x, hx⟩ : ∃ x, ((beN ((bs.drop (8 * k)).take 8) : Nat) : Int) = x := ⟨_, rfl⟩
          rw [hx] at hw ⊢
          have HW := Lib.hid hw
          have hown := HN.out.1
          have hsz := HN.out.2.size
          have h63 : (us ((w16 bs).take k)).length + 1 ≤ maxLen := by unfold maxLen us; rw [List.length_map, List.length_take]; omega
          have hby : ((us ((w16 bs).take k)).length + 1) * 8 ≤ 140737488355328 := by unfold us; rw [List.length_map, List.length_take]; omega
          have h1 : ∀ u ∈ [Value.int .u64 x], u.oneCell' = true := oneUs [x]
          clear hw hx hrb
          go_wp2_with (refine wpList_append_lits rfl (.tmp 46) (.tmp 48) 37 36 Tryd.underlying37 infoU rfl rfl w.heap.size _ _ rfl hown [.int .u64 x] 36 _ rfl 1 rfl (Lib.hid rfl) h1 h63 hby hsz ?_; intro v2 w2 o2 g2)
          have h2 := HN.out.step o2 g2
          rw [← HW.out] at h2
          exact ⟨⟨k + 1, by omega, by go_num, h2⟩, by simp [intOf]; omega⟩
    · obtain rfl : k = 16 := by omega
      rw [show ((16 : Nat) : Int) = (16 : Int) from rfl]
      rw [List.take_of_length_le (by rw [w16_len]; omega)] at hnx
      have HN := Lib.hid hnx
      clear hnx
      go_wp2_with fail
      go_loopw [7, 11] (fun v i wr => ∃ n m : Nat, n ≤ 64 ∧ m = n + 16 ∧ i = .int .i64 (m : Int) ∧ NxS (wN bs n) w v wr) (fun _ i _ => 80 - (intOf i).toNat)
      case atStart => exact ⟨0, 16, by omega, rfl, rfl, HN.out⟩
      case round =>
        clear HN
        obtain ⟨n, m, hn, hm, rfl, hnx⟩ := hrel
        have HM := Lib.hid hm
        have hsz := hnx.2.size
        obtain ⟨A', n', cap', rfl, hrv, hnn, hcap⟩ := hnx.1.form
        have hwl : (us (wN bs n)).length = 16 + n := by simp [us, wN_len]
        have hnw : n' = 16 + n := hnn.out.trans hwl
        have HNW := Lib.hid hnw
        obtain ⟨b7, o7, rfl, hb7, hcell⟩ := hrv.some (by omega)
        by_cases hp : m < 80
        · have hn2 : n < 64 := by omega
          obtain ⟨o1, h1⟩ : ∃ o, n + 1 = o := ⟨_, rfl⟩
          obtain ⟨o14, h14⟩ : ∃ o, n + 14 = o := ⟨_, rfl⟩
          obtain ⟨o9, h9⟩ : ∃ o, n + 9 = o := ⟨_, rfl⟩
          have s15 : IntKind.i64.wrap ((m : Int) - 15) = (o1 : Int) := (IntWalk.i64_in _ (by omega)).trans (by omega)
          have s2 : IntKind.i64.wrap ((m : Int) - 2) = (o14 : Int) := (IntWalk.i64_in _ (by omega)).trans (by omega)
          have s16 : IntKind.i64.wrap ((m : Int) - 16) = (n : Int) := (IntWalk.i64_in _ (by omega)).trans (by omega)
          have s7 : IntKind.i64.wrap ((m : Int) - 7) = (o9 : Int) := (IntWalk.i64_in _ (by omega)).trans (by omega)
          have b1 : o1 < n' := by omega
          have b14 : o14 < n' := by omega
          have b9 : o9 < n' := by omega
          have b0 : n < n' := by omega
          obtain ⟨x, hx⟩ : ∃ x, (wN bs n).getD o1 0 = x := ⟨_, rfl⟩
          obtain ⟨y, hy⟩ : ∃ x, (wN bs n).getD o14 0 = x := ⟨_, rfl⟩
          obtain ⟨p, hp0⟩ : ∃ x, (wN bs n).getD n 0 = x := ⟨_, rfl⟩
          obtain ⟨q, hq⟩ : ∃ x, (wN bs n).getD o9 0 = x := ⟨_, rfl⟩
          have ux : Hid (InU x) := Lib.hid (by rw [← hx]; exact wN_getD_inU _ _ _)
          have uy : Hid (InU y) := Lib.hid (by rw [← hy]; exact wN_getD_inU _ _ _)
          have wat : ∀ j, j < n' → (us (wN bs n))[j]? = some (.int .u64 ((wN bs n).getD j 0)) := fun j hj => us_at (by
            rw [List.getD_eq_getElem?_getD, List.getElem?_eq_getElem (by rw [wN_len]; omega)]; rfl)
          have c1 := hcell o1 _ (wat o1 b1)
          have c14 := hcell o14 _ (wat o14 b14)
          have c0 := hcell n _ (wat n b0)
          have c9 := hcell o9 _ (wat o9 b9)
          rw [hx] at c1
          rw [hy] at c14
          rw [hp0] at c0
          rw [hq] at c9
          have hw : Hid (wnext (wN bs n) = add (add (add p (sOf x)) q) (tOf y)) := Lib.hid (by
            unfold wnext
            rw [wN_len, show 16 + n - 16 = n by omega, show 16 + n - 15 = o1 by omega, show 16 + n - 7 = o9 by omega, show 16 + n - 2 = o14 by omega, hx, hy, hp0, hq])
          have HU := Lib.hid (And.intro hnx hwl)
          have HP := Lib.hid (And.intro hn2 hp)
          clear hx hy hp0 hq h1 h14 h9 hnx hwl hm hcell wat hrv hn hn2 hnw
          go_wp2_with fail
          go_quiet (fail)
          go_wp2_with fail
          refine (rV1 x ux.out _).mono ?_
          rintro e wq ⟨rfl, rfl⟩
          go_wp2_with fail
          refine (rV2 x ux.out _).mono ?_
          rintro e wq ⟨rfl, rfl⟩
          go_wp2_with fail
          refine (rW1 y uy.out _).mono ?_
          rintro e wq ⟨rfl, rfl⟩
          go_wp2_with fail
          refine (rW2 y uy.out _).mono ?_
          rintro e wq ⟨rfl, rfl⟩
          go_wp2_with fail
          refine wp_gen (fun W6 => (NxS (wN bs n) w (Value.slice (some { block := b7, off := o7 }) n' cap') W6 ∧ W6.cell? ⟨b7, o7 + n, none⟩ = some (.int .u64 p)) ∧ W6.cell? ⟨b7, o7 + o9, none⟩ = some (.int .u64 q)) ⟨⟨⟨HU.out.1.1.drewN _, HU.out.1.2.drewN _⟩, c0⟩, c9⟩ ?_
          clear c0 c9 c1 c14 hsz
          rintro W6 ⟨⟨hs6, c0⟩, c9⟩
          have HS6 := Lib.hid hs6
          have hsz := hs6.2.size
          clear hs6
          have i0 : (0 : Int) ≤ (n : Int) ∧ (n : Int) < (n' : Int) := by omega
          have i9 : (0 : Int) ≤ (o9 : Int) ∧ (o9 : Int) < (n' : Int) := by omega
          have h63 : (us (wN bs n)).length + 1 ≤ maxLen := by unfold maxLen; rw [HU.out.2]; have := HP.out.1; omega
          have hby : ((us (wN bs n)).length + 1) * 8 ≤ 140737488355328 := by rw [HU.out.2]; have := HP.out.1; omega
          have hb7 : b7 < W6.heap.size := World.block_lt_of_cell? W6 ⟨b7, o7 + n, none⟩ c0
          apply wp_region_g 17 (by kernel_rfl) (by kernel_rfl)
          simp only [List.take_succ_cons, List.take_zero, List.drop_succ_cons, List.drop_zero]
          apply lg_pure (.slice (some ⟨b7, o7, none⟩) n' cap') rfl (by intro W; go_simp)
          simp only [Act.put, List.setIfInBounds_toArray, List.set_cons_succ, List.set_cons_zero]
          apply lg_pure (.slice (some ⟨b7, o7, none⟩) n' cap') rfl (by intro W; go_simp)
          simp only [Act.put, List.setIfInBounds_toArray, List.set_cons_succ, List.set_cons_zero]
          apply lg_pure (.int .i64 (m : Int)) rfl (by intro W; go_simp)
          simp only [Act.put, List.setIfInBounds_toArray, List.set_cons_succ, List.set_cons_zero]
          apply lg_pure (.int .i64 (n : Int)) rfl (by intro W; go_simp)
          simp only [Act.put, List.setIfInBounds_toArray, List.set_cons_succ, List.set_cons_zero]
          apply lg_pure (.pointer (some ⟨b7, o7 + n, none⟩)) rfl (by intro W; go_simp)
          simp only [Act.put, List.setIfInBounds_toArray, List.set_cons_succ, List.set_cons_zero]
          apply lg_run (.int .u64 p) rfl (by intro W hW; have cW := (hW.cell (p := ⟨b7, o7 + n, none⟩) hb7).trans c0; go_simp)
          simp only [Act.put, List.setIfInBounds_toArray, List.set_cons_succ, List.set_cons_zero]
          apply lg_pure (.int .u64 (bits BinOp.xor IntKind.u64 (bits BinOp.xor IntKind.u64 (rotr x 1) (rotr x 8)) (x / 128))) rfl (by intro W; go_simp)
          simp only [Act.put, List.setIfInBounds_toArray, List.set_cons_succ, List.set_cons_zero]
          apply lg_pure (.int .u64 (add p (sOf x))) rfl (by intro W; go_simp; unfold add sOf; first | rfl | (rw [wrapU_eq]))
          simp only [Act.put, List.setIfInBounds_toArray, List.set_cons_succ, List.set_cons_zero]
          apply lg_pure (.slice (some ⟨b7, o7, none⟩) n' cap') rfl (by intro W; go_simp)
          simp only [Act.put, List.setIfInBounds_toArray, List.set_cons_succ, List.set_cons_zero]
          apply lg_pure (.int .i64 (m : Int)) rfl (by intro W; go_simp)
          simp only [Act.put, List.setIfInBounds_toArray, List.set_cons_succ, List.set_cons_zero]
          apply lg_pure (.int .i64 (o9 : Int)) rfl (by intro W; go_simp)
          simp only [Act.put, List.setIfInBounds_toArray, List.set_cons_succ, List.set_cons_zero]
          apply lg_pure (.pointer (some ⟨b7, o7 + o9, none⟩)) rfl (by intro W; go_simp)
          simp only [Act.put, List.setIfInBounds_toArray, List.set_cons_succ, List.set_cons_zero]
          apply lg_run (.int .u64 q) rfl (by intro W hW; have cW := (hW.cell (p := ⟨b7, o7 + o9, none⟩) hb7).trans c9; go_simp)
          simp only [Act.put, List.setIfInBounds_toArray, List.set_cons_succ, List.set_cons_zero]
          apply lg_pure (.int .u64 (add (add p (sOf x)) q)) rfl (by intro W; go_simp; first | rfl | (unfold add; simp only [wrapU_eq]))
          simp only [Act.put, List.setIfInBounds_toArray, List.set_cons_succ, List.set_cons_zero]
          apply lg_pure (.int .u64 (bits BinOp.xor IntKind.u64 (bits BinOp.xor IntKind.u64 (rotr y 19) (rotr y 61)) (y / 64))) rfl (by intro W; go_simp)
          simp only [Act.put, List.setIfInBounds_toArray, List.set_cons_succ, List.set_cons_zero]
          apply lg_pure (.int .u64 (wnext (wN bs n))) rfl (by intro W; rw [hw.out]; go_simp; first | rfl | (unfold add tOf; simp only [wrapU_eq]))
          simp only [Act.put, List.setIfInBounds_toArray, List.set_cons_succ, List.set_cons_zero]
          apply lg_allocV (fun g => .slice (some ⟨g, 0, none⟩) 1 1) (.cells #[.int .u64 (wnext (wN bs n))] 36 (0, 0)) (.cells #[.int .u64 (wnext (wN bs n))] 36 (0, 0)) rfl (by intro W; go_simp) (fun W => heap_alloc_new W _)
          intro gz hgz
          simp only [Act.put, List.setIfInBounds_toArray, List.set_cons_succ, List.set_cons_zero]
          refine lg_nil ?_
          intro w7 hC7
          have hgz2 := hC7.2 gz _ (show upd _ gz _ gz = some _ from if_pos rfl)
          have hnx7 : NxS (wN bs n) w (Value.slice (some { block := b7, off := o7 }) n' cap') w7 := ⟨HS6.out.1.below hC7.1 (Nat.le_refl _), HS6.out.2.then_ hC7.1⟩
          have hrv7 : RV w7 (some ⟨gz, 0, none⟩) [.int .u64 (wnext (wN bs n))] := RV.of_blk (show Blk w7 gz 36 [.int .u64 (wnext (wN bs n))] from hgz2.2)
          have hown := hnx7.1
          have hsz7 := hnx7.2.size
          have h1 := oneUs [wnext (wN bs n)]
          clear hC7 hgz2
          go_wp2_with (refine wpList_append_vs rfl (.tmp 80) (.tmp 96) 37 36 Tryd.underlying37 infoU rfl rfl w.heap.size _ _ rfl hown _ 1 1 _ rfl hrv7 (Lib.hid rfl) h1 h63 hby hsz7 ?_; intro v2 w2 o2 g2)
          have h2 := hnx7.step o2 g2
          have hmm := HM.out
          have hpp := HP.out
          exact ⟨⟨n + 1, m + 1, by omega, by omega, by go_num, h2⟩, by simp [intOf]; omega⟩
        · have hmm := HM.out
          obtain rfl : n = 64 := by omega
          obtain rfl : m = 80 := by omega
          have HK : Hid (NxK s bs w (some ⟨b7, o7, none⟩) As Ak wr) := Lib.hid ⟨hrv, HS.out.2.1.below hnx.2, HS.out.2.2.below hnx.2, hnx.2⟩
          obtain ⟨bS, oS, hAs, hbS, hcS⟩ := HK.out.2.1.some (show 0 < 8 by decide)
          have c0 := hcS 0 _ (show (us s.list)[0]? = some (.int .u64 s.a) from rfl)
          have c1 := hcS 1 _ (show (us s.list)[1]? = some (.int .u64 s.b) from rfl)
          have c2 := hcS 2 _ (show (us s.list)[2]? = some (.int .u64 s.c) from rfl)
          have c3 := hcS 3 _ (show (us s.list)[3]? = some (.int .u64 s.d) from rfl)
          have c4 := hcS 4 _ (show (us s.list)[4]? = some (.int .u64 s.e) from rfl)
          have c5 := hcS 5 _ (show (us s.list)[5]? = some (.int .u64 s.f) from rfl)
          have c6 := hcS 6 _ (show (us s.list)[6]? = some (.int .u64 s.g) from rfl)
          have c7 := hcS 7 _ (show (us s.list)[7]? = some (.int .u64 s.h) from rfl)
          rw [Nat.add_zero] at c0
          clear hcS hmm HM hm hcell hrv hnx hwl hnw hnn hsz
          subst hAs
          rw [show ((80 : Nat) : Int) = (80 : Int) from rfl]
          go_wp2_with fail
          go_quiet (fail)
          go_wp2_with fail
          go_loopw [16, 17, 18, 19, 20, 21, 22, 23, 24] (RelX s bs w (some ⟨b7, o7, none⟩) (some ⟨bS, oS, none⟩) Ak) (fun _ _ _ _ _ _ _ _ i _ => 80 - (intOf i).toNat)
          case atStart => exact ⟨0, s, by omega, rfl, (rfl : s = s), rfl, rfl, rfl, rfl, rfl, rfl, rfl, rfl, HK.out.drewN _⟩
          case round =>
            clear c0 c1 c2 c3 c4 c5 c6 c7 HK hbS hb7
            obtain ⟨k, t, hk, rfl, htk, rfl, rfl, rfl, rfl, rfl, rfl, rfl, rfl, hx⟩ := hrel
            by_cases hp : k < 80
            · have hiu := rnds_inU KS (wN bs 64) s HS.out.1 k
              rw [← htk.out] at hiu
              have UE := Lib.hid hiu.2.2.2.2.1
              have UA := Lib.hid hiu.1
              obtain ⟨kk, hkk⟩ : ∃ x, KS.getD k 0 = x := ⟨_, rfl⟩
              obtain ⟨ww, hww⟩ : ∃ x, (wN bs 64).getD k 0 = x := ⟨_, rfl⟩
              obtain ⟨bK, oK, hAk, hbK, ck⟩ := hx.2.2.1.at_ (us_at (KS_at k hp))
              rw [hkk] at ck
              obtain ⟨b8, o8, h8, hb8, cw⟩ := hx.1.at_ (us_at (show (wN bs 64)[k]? = some ww by rw [← hww, List.getD_eq_getElem?_getD, List.getElem?_eq_getElem (by rw [wN_len]; omega)]; rfl))
              injection h8 with h8; injection h8 with h81 h82
              subst h81; subst h82
              subst hAk
              have hst : Hid (rnds KS (wN bs 64) s (k + 1) = rnd kk ww t) := Lib.hid (by rw [htk.out]; show rnd _ _ _ = _; rw [hkk, hww])
              have HX := Lib.hid hx
              have i0 : (0 : Int) ≤ (k : Int) ∧ (k : Int) < 80 := by omega
              have i1 : k < n' := by have := HNW.out; omega
              clear hiu hkk hww hx
              go_wp2_with fail
              go_quiet ((go_at_call 19; exact Calls.quiet_of_eq (refE _ UE.out _)))
              have hpe : IntKind.u64.wrap (IntKind.u64.wrap (IntKind.u64.wrap (IntKind.u64.wrap (t.h + three t.e 14 18 41) + bits BinOp.xor IntKind.u64 (bits BinOp.and IntKind.u64 t.e t.f) (bits BinOp.and IntKind.u64 (bits BinOp.xor IntKind.u64 (if IntKind.u64.signed = true then -1 else IntKind.u64.max) t.e) t.g)) + kk) + ww) = pOf kk ww t := by
                unfold pOf add choose
                rw [show (if IntKind.u64.signed = true then -1 else IntKind.u64.max) = (18446744073709551615 : Int) from rfl]
              obtain ⟨pp, hpp⟩ : ∃ x, pOf kk ww t = x := ⟨_, rfl⟩
              rw [hpp] at hpe
              rw [hpe]
              have HPP := Lib.hid hpp
              clear hpe hpp cw ck
              go_wp2_with fail
              refine (refA _ UA.out _).mono ?_
              rintro e wq ⟨rfl, rfl⟩
              have e1 : IntKind.i64.wrap ((k : Int) + 1) = (k : Int) + 1 := IntWalk.i64_in _ (by omega)
              go_wp2_with fail
              refine ⟨⟨k + 1, rnd kk ww t, by omega, by go_num, Lib.hid hst.out.symm, ?_, rfl, rfl, rfl, ?_, rfl, rfl, rfl, HX.out.drewN _⟩, by simp [intOf]; omega⟩
              · congr 1
                show _ = add (pOf kk ww t) (qOf t)
                rw [HPP.out]
                unfold qOf add most
                rfl
              · congr 1
                show _ = add t.d (pOf kk ww t)
                rw [HPP.out]
                unfold add
                rfl
            · obtain rfl : k = 80 := by omega
              rw [show ((80 : Nat) : Int) = (80 : Int) from rfl]
              have hcomp : comp s bs = s.plus t := by unfold comp; rw [← htk.out]
              have HCP := Lib.hid hcomp
              obtain ⟨b8, o8, h8, hb8, hcS⟩ := hx.2.1.some (show 0 < 8 by decide)
              injection h8 with h8; injection h8 with h81 h82
              subst h81; subst h82
              have c0 := hcS 0 _ (show (us s.list)[0]? = some (.int .u64 s.a) from rfl)
              have c1 := hcS 1 _ (show (us s.list)[1]? = some (.int .u64 s.b) from rfl)
              have c2 := hcS 2 _ (show (us s.list)[2]? = some (.int .u64 s.c) from rfl)
              have c3 := hcS 3 _ (show (us s.list)[3]? = some (.int .u64 s.d) from rfl)
              have c4 := hcS 4 _ (show (us s.list)[4]? = some (.int .u64 s.e) from rfl)
              have c5 := hcS 5 _ (show (us s.list)[5]? = some (.int .u64 s.f) from rfl)
              have c6 := hcS 6 _ (show (us s.list)[6]? = some (.int .u64 s.g) from rfl)
              have c7 := hcS 7 _ (show (us s.list)[7]? = some (.int .u64 s.h) from rfl)
              rw [Nat.add_zero] at c0
              have HX := Lib.hid hx
              clear hcS hx hcomp
              go_wp2_with fail
              go_still_tail 40, (by kernel_rfl)
              change wpList _ _ _ _ _ wr.drew
              go_wp2_with fail
              have hres : us (comp s bs).list = [Value.int .u64 (IntKind.u64.wrap (s.a + t.a)), Value.int .u64 (IntKind.u64.wrap (s.b + t.b)), Value.int .u64 (IntKind.u64.wrap (s.c + t.c)), Value.int .u64 (IntKind.u64.wrap (s.d + t.d)), Value.int .u64 (IntKind.u64.wrap (s.e + t.e)), Value.int .u64 (IntKind.u64.wrap (s.f + t.f)), Value.int .u64 (IntKind.u64.wrap (s.g + t.g)), Value.int .u64 (IntKind.u64.wrap (s.h + t.h))] := by
                rw [HCP.out]
                rfl
              have HF := Lib.hid (And.intro ((RV.of_blk (Blk.new wr (us (comp s bs).list) 36)).drew) (((HX.out.2.2.2.alloc HX.out.2.2.2.size (.cells (us (comp s bs).list).toArray 36))).drewN 1))
              rw [hres] at HF
              go_ret
              rw [hres]
              exact ⟨_, rfl, HF.out.1, HF.out.2⟩
end Go.Proofs.YtjdgccgpkmimkaaDoor
