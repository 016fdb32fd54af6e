/- Layer 5: the document's Rest, walked. -/
import Derived.Test.YtmegjpjfkpgmbaaDoorScH
namespace Go.Proofs.YtmegjpjfkpgmbaaDoor
open Go.ChangeShapes Go.WideShapes Go.ChangeAt Go.RowKit Go.IntWalk
set_option linter.unusedVariables false

def numAt (w : World) (g : Nat) : Nat := match w.heap[g]? with
  | some (.cells cs _ _) => (valD (cs.toList.map intOf)).toNat
  | _ => 0
theorem Blk.num {w : World} {g : Nat} {T : TypeId} {es : List Int} (h : Blk w g T (is3 es)) : numAt w g = (valD es).toNat := by
  unfold Blk at h
  unfold numAt
  rw [h]
  have : (is3 es).toArray.toList.map intOf = es := by simp [is3, Function.comp_def, intOf]
  simp only [this]
def RsS (g g2 : Nat) (w : World) (ds : List Int) (wr : World) : Prop := Blk wr g 47 (is3 lD) ∧ Blk wr g2 47 (is3 ds) ∧ Below w.heap.size w wr
theorem RsS.later {g g2 : Nat} {w wr w1 : World} {ds : List Int} (h : RsS g g2 w ds wr) (b : Below wr.heap.size wr w1) : RsS g g2 w ds w1 := ⟨h.1.later b, h.2.1.later b, h.2.2.then_ b⟩
theorem RsS.drewN {g g2 : Nat} {w wr : World} {ds : List Int} (h : RsS g g2 w ds wr) (n : Nat) : RsS g g2 w ds (wr.drewN n) := ⟨h.1.drewN n, h.2.1.drewN n, h.2.2.drewN n⟩
theorem RsS.set_ {g g2 : Nat} {w wr : World} {ds : List Int} (h : RsS g g2 w ds wr) (hne : g2 ≠ g) (hg : w.heap.size ≤ g2) (k : Nat) (d : Int) : RsS g g2 w (ds.set k d) (wr.setCell ⟨g2, k, none⟩ (.int .i64 d)) :=
  ⟨h.1.other hne _, by rw [← is3_set]; exact h.2.1.set_ k _, h.2.2.setCell (by show w.heap.size ≤ g2; omega) _⟩
theorem z33_dig : Dig (List.replicate 33 0) 0 := ⟨by simp, fun x hx => by rw [List.eq_of_mem_replicate hx]; decide, by decide +kernel⟩
theorem outs_is (ds : List Int) (v : Nat) (h : Dig ds (v : Int)) (hv : v < 256 ^ 32) : (ds.take 32).map (fun d => UInt8.ofNat d.toNat) = leB 32 v := by
  have hlen := h.1
  have hrng := h.2.1
  obtain ⟨d, hd⟩ : ∃ d, ds[32]? = some d := ⟨_, List.getElem?_eq_getElem (by omega)⟩
  have h1 := valD_take ds 32 d hd
  rw [List.take_of_length_le (by omega), h.2.2] at h1
  have h2 := valD_lt (ds.take 32) (fun x hx => hrng x (List.mem_of_mem_take hx))
  have hlt : (ds.take 32).length = 32 := by simp; omega
  rw [hlt] at h2
  have hdr := hrng d (List.mem_of_getElem? hd)
  have hv2 : valD (ds.take 32) = (v : Int) := by
    have hvv : (v : Int) < ((256 ^ 32 : Nat) : Int) := Int.ofNat_lt.2 hv
    have e1 : ((256 ^ 32 : Nat) : Int) = 256 ^ 32 := by decide +kernel
    rw [e1] at hvv
    have e2 : (256 : Int) ^ 32 = 115792089237316195423570985008687907853269984665640564039457584007913129639936 := by decide +kernel
    rw [e2] at h1 h2 hvv
    omega
  have key : ∀ (k : Nat) (xs : List Int) (n : Nat), xs.length = k → (∀ x ∈ xs, 0 ≤ x ∧ x < 256) → valD xs = (n : Int) → xs.map (fun d => UInt8.ofNat d.toNat) = leB k n := by
    intro k
    induction k with
    | zero => intro xs n hl _ _; rw [List.length_eq_zero_iff.1 hl]; rfl
    | succ k ih =>
      intro xs n hl hr hv
      cases xs with
      | nil => simp at hl
      | cons x xs =>
        have hx := hr x (List.mem_cons_self ..)
        have hv' : x + 256 * valD xs = (n : Int) := hv
        have ht := valD_lt xs (fun y hy => hr y (List.mem_cons_of_mem _ hy))
        rw [List.map_cons, leB, ih xs (n / 256) (by simpa using hl) (fun y hy => hr y (List.mem_cons_of_mem _ hy)) (by omega), show x.toNat = n % 256 by omega]
  exact key 32 _ v hlt (fun x hx => hrng x (List.mem_of_mem_take hx)) hv2
set_option maxRecDepth 100000 in
set_option maxHeartbeats 8000000 in
theorem refRest_calls (l : List UInt8) (hl : l.length ≤ 2 ^ 40) (w : World) :
    Calls Tryd.prog 11 #[.string ⟨l.toArray⟩] w fun e w' => e = .returned (.string ⟨(leB 32 (leN l % LO)).toArray⟩) ∧ Below w.heap.size w w' := by
  have hbs : (⟨l.toArray⟩ : ByteArray).size = l.length := rfl
  go_enter Tryd.func11, Tryd.ntmps11
  go_wp2_with fail
  refine (refL_calls _).mono ?_
  rintro e w1 ⟨rfl, b1⟩
  obtain ⟨ZV, hZV⟩ : ∃ z : Array Value, #[.int .i64 0, .int .i64 0, .int .i64 0, .int .i64 0, .int .i64 0, .int .i64 0, .int .i64 0, .int .i64 0, .int .i64 0, .int .i64 0, .int .i64 0, .int .i64 0, .int .i64 0, .int .i64 0, .int .i64 0, .int .i64 0, .int .i64 0, .int .i64 0, .int .i64 0, .int .i64 0, .int .i64 0, .int .i64 0, .int .i64 0, .int .i64 0, .int .i64 0, .int .i64 0, .int .i64 0, .int .i64 0, .int .i64 0, .int .i64 0, .int .i64 0, .int .i64 0, .int .i64 0] = z := ⟨_, rfl⟩
  have hz1 := new33 w1
  have hl1 := hz1.setAll (vs := is3 lD) rfl
  have hb2 := blw_cells b1.size (is3 lD) 0 _ (b1.alloc b1.size (.cells #[.int .i64 0, .int .i64 0, .int .i64 0, .int .i64 0, .int .i64 0, .int .i64 0, .int .i64 0, .int .i64 0, .int .i64 0, .int .i64 0, .int .i64 0, .int .i64 0, .int .i64 0, .int .i64 0, .int .i64 0, .int .i64 0, .int .i64 0, .int .i64 0, .int .i64 0, .int .i64 0, .int .i64 0, .int .i64 0, .int .i64 0, .int .i64 0, .int .i64 0, .int .i64 0, .int .i64 0, .int .i64 0, .int .i64 0, .int .i64 0, .int .i64 0, .int .i64 0, .int .i64 0] 47))
  have HT1 := Lib.hid (hz1.there (n := (is3 lD).toArray.size) rfl)
  have HS1 := Lib.hid (size33a lD rfl)
  have HO1 := Lib.hid (one3 lD)
  rw [hZV] at hl1 hb2 HT1
  have HL1 := Lib.hid (And.intro hl1 hb2)
  have HZV := Lib.hid hZV
  clear hz1 hl1 hb2 b1 hZV
  go_upto_region 2 with (refine wpList_store_mid rfl 47 _ _ rfl w1.heap.size 0 (is3 lD).toArray rfl rfl (by have h := HT1.out; rw [← HZV.out] at h; exact h) HS1.out HO1.out ?_)
  obtain ⟨g, hg⟩ : ∃ g, w1.heap.size = g := ⟨_, rfl⟩
  rw [hg] at HL1 ⊢
  refine wp_gen (fun W => Blk W g 47 (is3 lD) ∧ Below w.heap.size w W) (by have h := HL1.out; rw [← HZV.out] at h; exact h) ?_
  rintro W2 ⟨h2, hb2⟩
  have hgl := h2.lt
  have hw2 := hb2.size
  have hz2 := new33 W2
  have hz3 := hz2.setAll (vs := is3 (List.replicate 33 0)) rfl
  have hl3 := (h2.alloc (.cells #[.int .i64 0, .int .i64 0, .int .i64 0, .int .i64 0, .int .i64 0, .int .i64 0, .int .i64 0, .int .i64 0, .int .i64 0, .int .i64 0, .int .i64 0, .int .i64 0, .int .i64 0, .int .i64 0, .int .i64 0, .int .i64 0, .int .i64 0, .int .i64 0, .int .i64 0, .int .i64 0, .int .i64 0, .int .i64 0, .int .i64 0, .int .i64 0, .int .i64 0, .int .i64 0, .int .i64 0, .int .i64 0, .int .i64 0, .int .i64 0, .int .i64 0, .int .i64 0, .int .i64 0] 47)).setFar (g2 := W2.heap.size) (by omega) 0 (is3 (List.replicate 33 0))
  have hb3 := blw_cells hb2.size (is3 (List.replicate 33 0)) 0 _ (hb2.alloc hb2.size (.cells #[.int .i64 0, .int .i64 0, .int .i64 0, .int .i64 0, .int .i64 0, .int .i64 0, .int .i64 0, .int .i64 0, .int .i64 0, .int .i64 0, .int .i64 0, .int .i64 0, .int .i64 0, .int .i64 0, .int .i64 0, .int .i64 0, .int .i64 0, .int .i64 0, .int .i64 0, .int .i64 0, .int .i64 0, .int .i64 0, .int .i64 0, .int .i64 0, .int .i64 0, .int .i64 0, .int .i64 0, .int .i64 0, .int .i64 0, .int .i64 0, .int .i64 0, .int .i64 0, .int .i64 0] 47))
  have ht2 := hz2.there (n := (is3 (List.replicate 33 0)).toArray.size) rfl
  have HL3 : Hid (RsS g W2.heap.size w (List.replicate 33 0) ((W2.alloc (.cells #[.int .i64 0, .int .i64 0, .int .i64 0, .int .i64 0, .int .i64 0, .int .i64 0, .int .i64 0, .int .i64 0, .int .i64 0, .int .i64 0, .int .i64 0, .int .i64 0, .int .i64 0, .int .i64 0, .int .i64 0, .int .i64 0, .int .i64 0, .int .i64 0, .int .i64 0, .int .i64 0, .int .i64 0, .int .i64 0, .int .i64 0, .int .i64 0, .int .i64 0, .int .i64 0, .int .i64 0, .int .i64 0, .int .i64 0, .int .i64 0, .int .i64 0, .int .i64 0, .int .i64 0] 47)).setCells W2.heap.size 0 (is3 (List.replicate 33 0)))) := Lib.hid ⟨hl3, hz3, hb3⟩
  have HZ0 : Hid (#[.int .i64 0, .int .i64 0, .int .i64 0, .int .i64 0, .int .i64 0, .int .i64 0, .int .i64 0, .int .i64 0, .int .i64 0, .int .i64 0, .int .i64 0, .int .i64 0, .int .i64 0, .int .i64 0, .int .i64 0, .int .i64 0, .int .i64 0, .int .i64 0, .int .i64 0, .int .i64 0, .int .i64 0, .int .i64 0, .int .i64 0, .int .i64 0, .int .i64 0, .int .i64 0, .int .i64 0, .int .i64 0, .int .i64 0, .int .i64 0, .int .i64 0, .int .i64 0, .int .i64 0] = (is3 (List.replicate 33 0)).toArray) := Lib.hid rfl
  have hS2 := size33a (List.replicate 33 0) (by simp)
  have hO2 := one3 (List.replicate 33 0)
  obtain ⟨zs, hzs⟩ : ∃ z, is3 (List.replicate 33 0) = z := ⟨_, rfl⟩
  rw [hzs] at ht2 HZ0 hS2 hO2 HL3
  have HT2 := Lib.hid ht2
  have HS2 := Lib.hid hS2
  have HO2 := Lib.hid hO2
  clear h2 hb2 HL1 HT1 HS1 HO1 hg hz2 hz3 hl3 hb3 ht2 hS2 hO2 hzs
  go_upto_region 3 with (refine wpList_store_mid rfl 47 _ _ rfl W2.heap.size 0 zs.toArray rfl (by rw [← HZ0.out]; rfl) HT2.out HS2.out HO2.out ?_)
  obtain ⟨zv, hzv⟩ : ∃ z, Value.agg #[.int .i64 0, .int .i64 0, .int .i64 0, .int .i64 0, .int .i64 0, .int .i64 0, .int .i64 0, .int .i64 0, .int .i64 0, .int .i64 0, .int .i64 0, .int .i64 0, .int .i64 0, .int .i64 0, .int .i64 0, .int .i64 0, .int .i64 0, .int .i64 0, .int .i64 0, .int .i64 0, .int .i64 0, .int .i64 0, .int .i64 0, .int .i64 0, .int .i64 0, .int .i64 0, .int .i64 0, .int .i64 0, .int .i64 0, .int .i64 0, .int .i64 0, .int .i64 0, .int .i64 0] = z := ⟨_, rfl⟩
  go_frame
  rw [hzv]
  clear hzv
  obtain ⟨g2, hg2⟩ : ∃ g, W2.heap.size = g := ⟨_, rfl⟩
  rw [hg2] at HL3 ⊢
  refine wp_gen (fun W => RsS g g2 w (List.replicate 33 0) W) HL3.out ?_
  intro W3 h3
  have hne : g2 ≠ g := by omega
  have hgw : w.heap.size ≤ g2 := by omega
  have H3 := Lib.hid h3
  clear h3 HL3 hg2 hgl hw2 HZV HT2 HS2 HO2 HZ0
  obtain ⟨z0, hz0⟩ : ∃ z : Int, (l.length : Int) - 1 = z := ⟨_, rfl⟩
  have HZ0 := Lib.hid hz0
  have hw0 : IntKind.i64.wrap ((l.length : Int) - 1) = z0 := (IntWalk.i64_in _ (by omega)).trans hz0
  clear hz0
  go_wp2_with fail
  go_loopw [5] (fun kv wr => ∃ (m : Nat) (z : Int) (ds : List Int), m ≤ l.length ∧ Hid (z = (m : Int) - 1) ∧ kv = .int .i64 z ∧ Dig ds ((leN (l.drop m) % LO : Nat) : Int) ∧ RsS g g2 w ds wr) (fun kv _ => (intOf kv + 1).toNat)
  case atStart => exact ⟨l.length, z0, _, Nat.le_refl _, Lib.hid HZ0.out.symm, rfl, by rw [List.drop_length]; exact z33_dig, H3.out⟩
  case round =>
    clear H3 hw0
    obtain ⟨m, z, ds, hm, hz, rfl, hdg, hrs⟩ := hrel
    have HDG := Lib.hid hdg
    have HRS := Lib.hid hrs
    clear hdg hrs
    by_cases hm0 : 0 < m
    · obtain ⟨q, rfl⟩ : ∃ q, m = q + 1 := ⟨m - 1, by omega⟩
      obtain rfl : z = (q : Int) := by have := hz.out; omega
      have hb0 : decide ((0 : Int) ≤ (q : Int)) = true := by simp
      go_wp2_with fail
      go_loopw [6] (fun jv wi => ∃ j : Nat, j ≤ 32 ∧ jv = .int .i64 (j : Int) ∧ RsS g g2 w (shD ds j) wi) (fun jv _ => (intOf jv).toNat)
      case atStart => exact ⟨32, Nat.le_refl _, rfl, by rw [shD_top ds HDG.out.1]; exact HRS.out⟩
      case round =>
        obtain ⟨j, hj, rfl, hrs⟩ := hrel
        by_cases hj0 : 0 < j
        · obtain ⟨p, rfl⟩ : ∃ p, j = p + 1 := ⟨j - 1, by omega⟩
          obtain ⟨d, hd⟩ : ∃ d, ds[p]? = some d := ⟨_, List.getElem?_eq_getElem (by rw [HDG.out.1]; omega)⟩
          have c1 := hrs.2.1.cell (is3_at ((shD_at ds p HDG.out.1 hj).trans hd))
          have f1 := hrs.2.1.frozen (p + 1)
          have hset := hrs.set_ hne hgw (p + 1) d
          rw [shD_step ds p d HDG.out.1 hj hd] at hset
          have HS := Lib.hid hset
          obtain ⟨o, ho⟩ : ∃ o, (shD ds (p + 1))[p + 1]? = some o := ⟨_, List.getElem?_eq_getElem (by rw [shD_len ds (p + 1) HDG.out.1 hj]; omega)⟩
          have c2 := hrs.2.1.cell (is3_at ho)
          obtain ⟨j1, hj1⟩ : ∃ j1, p + 1 = j1 := ⟨_, rfl⟩
          rw [hj1] at c2 f1 HS hj
          have e1 : IntKind.i64.wrap ((j1 : Int) - 1) = (p : Int) := (IntWalk.i64_in _ (by omega)).trans (by omega)
          have hpos : decide ((0 : Int) < (j1 : Int)) = true := by simp; omega
          have i1 : (0 : Int) ≤ (p : Int) ∧ (p : Int) < 33 := by omega
          have i2 : (0 : Int) ≤ (j1 : Int) ∧ (j1 : Int) < 33 := by omega
          clear hset hrs ho hd
          rw [hj1]
          go_wp2_with fail
          exact ⟨⟨p, by omega, rfl, HS.out⟩, by simp [intOf]; omega⟩
        · obtain rfl : j = 0 := by omega
          have hj00 : decide ((0 : Int) < 0) = false := by simp
          obtain ⟨c, hc⟩ : ∃ c, l[q]? = some c := ⟨_, List.getElem?_eq_getElem (by omega)⟩
          have hcl := c.toNat_lt
          have i1 : q < l.length := by omega
          have hcq : l[q] = c := by rw [List.getElem?_eq_getElem i1] at hc; exact Option.some.inj hc
          have hdig : Dig ((shD ds 0).set 0 (c.toNat : Int)) ((256 * (leN (l.drop (q + 1)) % LO) + c.toNat : Nat) : Int) := by
            rw [shD_zero ds _ HDG.out.1]
            have hlo : LO < 256 ^ 32 := by decide +kernel
            have := Nat.mod_lt (leN (l.drop (q + 1))) (show 0 < LO by decide +kernel)
            have h := dig_push ds _ (c.toNat : Int) HDG.out (by
              have h2 : ((leN (l.drop (q + 1)) % LO : Nat) : Int) < ((256 ^ 32 : Nat) : Int) := by exact Int.ofNat_lt.2 (by omega)
              simpa using h2) (by omega)
            rw [show ((256 * (leN (l.drop (q + 1)) % LO) + c.toNat : Nat) : Int) = 256 * ((leN (l.drop (q + 1)) % LO : Nat) : Int) + (c.toNat : Int) by omega]
            exact h
          have hX : (256 * (leN (l.drop (q + 1)) % LO) + c.toNat) % LO = leN (l.drop q) % LO := by
            rw [List.drop_eq_getElem_cons i1, hcq]
            simp only [leN]
            rw [Nat.add_mod, Nat.mul_mod, Nat.mod_mod, ← Nat.mul_mod, ← Nat.add_mod, Nat.add_comm]
          have f0 := hrs.2.1.frozen 0
          obtain ⟨o, ho⟩ : ∃ o, (shD ds 0)[0]? = some o := ⟨_, List.getElem?_eq_getElem (by rw [shD_len ds 0 HDG.out.1 (by omega)]; omega)⟩
          have c0 := hrs.2.1.cell (is3_at ho)
          have hset := hrs.set_ hne hgw 0 (c.toNat : Int)
          have hcv : IntKind.i64.wrap (c.toNat : Int) = (c.toNat : Int) := IntWalk.i64_in _ (by omega)
          obtain ⟨es, hes⟩ : ∃ es, (shD ds 0).set 0 (c.toNat : Int) = es := ⟨_, rfl⟩
          rw [hes] at hdig hset
          have HE := Lib.hid (And.intro hdig (And.intro hset hX))
          have HQ := Lib.hid i1
          clear hdig hset hX hes ho hrs hc
          go_wp2_with fail
          clear f0 c0 hcv hcq hcl hj00
          go_loopw [7, 8] (fun _ _ wc => ∃ (v : Nat) (fs : List Int), Dig fs (v : Int) ∧ v % LO = leN (l.drop q) % LO ∧ RsS g g2 w fs wc) (fun _ _ wc => numAt wc g2)
          case atStart => exact ⟨_, es, HE.out.1, HE.out.2.2, HE.out.2.1⟩
          case round =>
            clear HE
            obtain ⟨v, fs, hdf, hvm, hrf⟩ := hrel
            have HF := Lib.hid (And.intro hdf (And.intro hvm hrf))
            have HRF := Lib.hid hrf.2.1.rng
            have HSF := Lib.hid (size33u fs hdf.1)
            have hval := hdf.2.2
            clear hdf hvm hrf
            go_wp2_with (refine wpList_load_mid rfl 47 _ rfl g2 0 rfl (is3 fs) _ HRF.out Tryd.underlying47 rfl HSF.out ?_)
            refine (refBelow_calls fs HF.out.1.1 HF.out.1.2.1 _).mono ?_
            rintro e w4 ⟨rfl, b4⟩
            have HF4 := Lib.hid (HF.out.2.2.later b4)
            have HN4 : Hid (numAt wr g2 = v) := Lib.hid (by rw [HF.out.2.2.2.1.num, HF.out.1.2.2]; simp)
            clear b4
            by_cases hlt : v < LO
            · have hdec : decide (valD fs < (LO : Int)) = true := by rw [hval]; simp; omega
              rw [hdec]
              obtain ⟨y, hy⟩ : ∃ y : Int, (q : Int) - 1 = y := ⟨_, rfl⟩
              have HY := Lib.hid hy
              have hwy : IntKind.i64.wrap ((q : Int) - 1) = y := (IntWalk.i64_in _ (by omega)).trans hy
              have hvv : v = leN (l.drop q) % LO := by rw [← HF.out.2.1, Nat.mod_eq_of_lt hlt]
              have HV := Lib.hid hvv
              clear hy hdec hval hvv HRF HSF
              go_wp2_with fail
              exact ⟨⟨q, y, fs, by omega, Lib.hid HY.out.symm, rfl, by rw [← HV.out]; exact HF.out.1, HF4.out⟩, by simp [intOf]; have := HY.out; omega⟩
            · have hdec : decide (valD fs < (LO : Int)) = false := by rw [hval]; simp; omega
              rw [hdec]
              clear hdec hval HRF HSF
              go_wp2_with fail
              go_loopw [7, 8] (fun bv iv wi => ∃ (k : Nat) (u : Int) (gs : List Int), k ≤ 33 ∧ iv = .int .i64 (k : Int) ∧ bv = .int .i64 u ∧ SbS fs k u gs ∧ RsS g g2 w gs wi) (fun _ iv _ => 33 - (intOf iv).toNat)
              case atStart => exact ⟨0, 0, fs, by omega, rfl, rfl, SbS.start HF.out.1, HF4.out⟩
              case round =>
                obtain ⟨k, u, gs, hk, rfl, rfl, hsb, hrg⟩ := hrel
                by_cases hp : k < 33
                · obtain ⟨d, hd⟩ : ∃ d, fs[k]? = some d := ⟨_, List.getElem?_eq_getElem (by rw [HF.out.1.1]; exact hp)⟩
                  obtain ⟨e, he⟩ : ∃ e, lD[k]? = some e := ⟨_, List.getElem?_eq_getElem (show k < lD.length from hp)⟩
                  have hdr := HF.out.1.2.1 d (List.mem_of_getElem? hd)
                  have her := lD_rng e (List.mem_of_getElem? he)
                  have hur := hsb.2.2.2.1
                  have c1 := hrg.2.1.cell (is3_at ((hsb.2.1 k (Nat.le_refl _)).trans hd))
                  have c2 := hrg.1.cell (is3_at he)
                  have f1 := hrg.2.1.frozen k
                  obtain ⟨x, hx⟩ : ∃ x, d - e - u = x := ⟨_, rfl⟩
                  have w1 : IntKind.i64.wrap (d - e) = d - e := IntWalk.i64_in _ (by omega)
                  have w2 : IntKind.i64.wrap (d - e - u) = x := (IntWalk.i64_in _ (by omega)).trans hx
                  have w3 : IntKind.i64.wrap (x + 256) = x + 256 := IntWalk.i64_in _ (by omega)
                  have hk33 : decide ((k : Int) < 33) = true := by simp; omega
                  have i2 : (0 : Int) ≤ (k : Int) ∧ (k : Int) < 33 := by omega
                  have hset1 := hrg.set_ hne hgw k x
                  by_cases hneg : x < 0
                  · have hn : decide (x < 0) = true := by simpa using hneg
                    have hstep := hsb.step (z := x + 256) (v := 1) hp hd he (by omega) (.inr rfl) (by omega)
                    have hset2 := (hset1.drewN 1).set_ hne hgw k (x + 256)
                    rw [List.set_set] at hset2
                    have HS := Lib.hid (And.intro hstep hset2)
                    clear hd he hset1 hset2 hstep hrg hsb hneg hx
                    go_wp2_with fail
                    go_region
                    all_goals go_wp2_with fail
                    all_goals exact ⟨⟨k + 1, 1, _, by omega, by go_num, rfl, HS.out.1, HS.out.2⟩, by simp [intOf]; omega⟩
                  · have hn : decide (x < 0) = false := by simpa using hneg
                    have hstep := hsb.step (z := x) (v := 0) hp hd he (by omega) (.inl rfl) (by omega)
                    have HS := Lib.hid (And.intro hstep (hset1.drewN 1))
                    clear hd he hset1 hstep hrg hsb hneg hx
                    go_wp2_with fail
                    go_region
                    all_goals go_wp2_with fail
                    all_goals exact ⟨⟨k + 1, 0, _, by omega, by go_num, rfl, HS.out.1, HS.out.2⟩, by simp [intOf]; omega⟩
                · obtain rfl : k = 33 := by omega
                  have hge : (LO : Int) ≤ (v : Int) := by omega
                  have hdone := hsb.done HF.out.1 hge
                  obtain ⟨v2, hv2⟩ : ∃ v2 : Nat, v = v2 + LO := ⟨v - LO, by omega⟩
                  have hde : ((v : Int) - (LO : Int)) = (v2 : Int) := by omega
                  rw [hde] at hdone
                  have hmod : v2 % LO = leN (l.drop q) % LO := by rw [← HF.out.2.1, hv2, Nat.add_mod_right]
                  have hlo0 : 0 < LO := by decide +kernel
                  have hnum : numAt wr g2 < v := by rw [hrg.2.1.num, hdone.2.2]; simp; omega
                  have HE := Lib.hid (And.intro hdone (And.intro hmod (And.intro hrg hnum)))
                  clear hdone hmod hnum hrg hsb hge hv2 hde hlo0
                  go_wp2_with fail
                  refine ⟨?_, by have := HE.out.2.2.2; have := HN4.out; omega⟩
                  repeat apply Exists.intro
                  refine ⟨⟨v2, gs, HE.out.1, HE.out.2.1, HE.out.2.2.1⟩, ?_⟩
                  rfl
    · obtain rfl : m = 0 := by omega
      have hz1 : z = -1 := by have := hz.out; omega
      subst hz1
      have HDG2 := HDG
      rw [List.drop_zero] at HDG2
      have HDR := Lib.hid HDG2.out.2.1
      go_wp2_with fail
      go_loopw [9, 10] (fun v i wi => ∃ k : Nat, k ≤ 32 ∧ i = .int .i64 (k : Int) ∧ OwnBs w.heap.size wi v ((ds.take k).map fun d => UInt8.ofNat d.toNat) ∧ RsS g g2 w ds wi ∧ w.heap.size ≤ wi.heap.size) (fun _ i _ => 32 - (intOf i).toNat)
      case atStart => exact ⟨0, by omega, rfl, OwnBs.nil _ _, HRS.out, HRS.out.2.2.size⟩
      case round =>
        obtain ⟨k, hk, rfl, hown, hrs, hsz⟩ := hrel
        by_cases hp : k < 32
        · obtain ⟨d, hd⟩ : ∃ d, ds[k]? = some d := ⟨_, List.getElem?_eq_getElem (by rw [HDG2.out.1]; omega)⟩
          have hdr := HDR.out d (List.mem_of_getElem? hd)
          have c1 := hrs.2.1.cell (is3_at hd)
          have hb1 : decide ((k : Int) < 32) = true := by simp; omega
          have i2 : (0 : Int) ≤ (k : Int) ∧ (k : Int) < 33 := by omega
          have hcv : IntKind.u8.wrap d = ((UInt8.ofNat d.toNat).toNat : Int) := by rw [IntKind.wrap_u8]; simp; omega
          have htk : (ds.take (k + 1)).map (fun d => UInt8.ofNat d.toNat) = (ds.take k).map (fun d => UInt8.ofNat d.toNat) ++ [UInt8.ofNat d.toNat] := by
            rw [List.take_add_one, hd]; simp
          have hlen : ((ds.take k).map fun d => UInt8.ofNat d.toNat).length ≤ 32 := by simp; omega
          have HT := Lib.hid htk
          obtain ⟨bs, hbs2⟩ : ∃ b, (ds.take k).map (fun d => UInt8.ofNat d.toNat) = b := ⟨_, rfl⟩
          rw [hbs2] at hown hlen HT
          obtain ⟨y, hy⟩ : ∃ y, UInt8.ofNat d.toNat = y := ⟨_, rfl⟩
          rw [hy] at hcv HT
          clear htk hbs2 hy hd
          go_wp2_with (at_builtin; refine wpList_append_u8 rfl (.tmp 67) (.tmp 72) rfl w.heap.size _ _ rfl hown y rfl rfl (by omega) hsz ?_; intro v' w2 hown' hgrow')
          have hne1 := hown.ne hrs.1 (by intro c f h; cases h)
          have hne2 := hown.ne hrs.2.1 (by intro c f h; cases h)
          exact ⟨⟨k + 1, by omega, rfl, by rw [HT.out]; exact hown', ⟨(hgrow'.block g hrs.1.lt hne1).trans hrs.1, (hgrow'.block g2 hrs.2.1.lt hne2).trans hrs.2.1, hrs.2.2.grown hgrow' hrs.2.2.size (fun k hk => (hown.lt k hk).1)⟩, Nat.le_trans hsz hgrow'.size⟩, by simp [intOf]; omega⟩
        · obtain rfl : k = 32 := by omega
          have hlt : leN l % LO < 256 ^ 32 := Nat.lt_trans (Nat.mod_lt _ (by decide +kernel)) (by decide +kernel)
          have ho := outs_is ds _ HDG2.out hlt
          rw [ho] at hown
          obtain ⟨A, n, c, rfl, hrb, hn⟩ := hown.form
          have hs := run_str_rb wr A n c _ hrb hn
          have HB := Lib.hid hrs.2.2
          clear hrs hown ho hrb hn hlt
          go_wp2_with fail
          go_ret
          exact ⟨rfl, HB.out⟩
end Go.Proofs.YtmegjpjfkpgmbaaDoor
