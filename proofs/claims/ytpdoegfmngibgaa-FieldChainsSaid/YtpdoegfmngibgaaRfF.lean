/- Layer 4: the document's least number of a rest. -/
import Derived.Test.YtpdoegfmngibgaaRfE
namespace Go.Proofs.Ytpdoegfmngibgaa
open Go.ChangeShapes Go.WideShapes Go.ChangeAt Go.RowKit Go.IntWalk
set_option linter.unusedVariables false

/-- Digits, none below nought or beyond sixteen bits. -/
def Dig (es : List Int) : Prop := es.length = 16 ∧ ∀ x ∈ es, 0 ≤ x ∧ x < 65536
def RLeast (r : Nat) (w : World) (e : Ending) (w' : World) : Prop := ∃ es, e = .returned (A16 es) ∧ Dig es ∧ valD es = ((r % P : Nat) : Int) ∧ Below w.heap.size w w'
def numAt (w : World) (g : Nat) : Nat := match w.heap[g]? with
  | some (.cells cs _ _) => (valD (cs.toList.map intOf)).toNat
  | _ => 0
theorem NBlk.num {w : World} {g : Nat} {es : List Int} (h : NBlk w g es) : numAt w g = (valD es).toNat := by
  unfold NBlk at h
  unfold numAt
  rw [h]
  have : (i64s es).toArray.toList.map intOf = es := by simp [i64s, Function.comp_def, intOf]
  simp only [this]
def LsS (r g : Nat) (w wr : World) (es : List Int) : Prop := Dig es ∧ valD es % (P : Int) = ((r % P : Nat) : Int) ∧ NBlk wr g es ∧ NBlk wr (g + 1) Z16 ∧ Below w.heap.size w wr
def InS (es : List Int) (g k : Nat) (c : Int) (wr : World) : Prop := ∃ done, done.length = k ∧ (-1 ≤ c ∧ c ≤ 0) ∧ cgo 0 (zipSub es pD 16) = (done ++ (cgo c ((zipSub es pD 16).drop k)).1, (cgo c ((zipSub es pD 16).drop k)).2) ∧ NBlk wr g (done ++ es.drop k)
theorem zipSub_at (es : List Int) (k : Nat) (hk : k < 16) (a p : Int) (ha : es[k]? = some a) (hp : pD[k]? = some p) : (zipSub es pD 16).drop k = (a - p) :: (zipSub es pD 16).drop (k + 1) := by
  have hl : k < (zipSub es pD 16).length := by rw [zipSub_len]; exact hk
  rw [List.drop_eq_getElem_cons hl]
  congr 1
  simp [zipSub, hk, List.getD_eq_getElem?_getD, ha, hp]
theorem InS.step {es : List Int} {g k : Nat} {c a p : Int} {wr : World} (h : InS es g k c wr) (hk : k < 16) (hes : es.length = 16) (ha : es[k]? = some a) (hp : pD[k]? = some p) (hab : 0 ≤ a ∧ a < 65536) (hpb : 0 ≤ p ∧ p < 65536) :
    InS es g (k + 1) ((a - p + c) / 65536) (wr.setCell ⟨g, k, none⟩ (.int .i64 (a - p + c - (a - p + c) / 65536 * 65536))) := by
  obtain ⟨done, hd, hc, he, hn⟩ := h
  have h1 : k < es.length := by omega
  have ea : es[k] = a := by rw [List.getElem?_eq_getElem h1] at ha; exact Option.some.inj ha
  have hdr : es.drop k = a :: es.drop (k + 1) := by rw [List.drop_eq_getElem_cons h1, ea]
  have h2 := hn.set_ k (a - p + c - (a - p + c) / 65536 * 65536)
  rw [hdr, mid_set _ _ _ _ _ hd] at h2
  refine ⟨done ++ [a - p + c - (a - p + c) / 65536 * 65536], by simp [hd], by omega, ?_, by simpa using h2⟩
  rw [he, zipSub_at es k hk a p ha hp, sub_mod]
  conv => lhs; unfold cgo
  simp
theorem InS.done {es : List Int} {g : Nat} {c : Int} {wr : World} (h : InS es g 16 c wr) (hd : Dig es) (hge : (P : Int) ≤ valD es) : ∃ fs, Dig fs ∧ valD fs = valD es - (P : Int) ∧ NBlk wr g fs := by
  obtain ⟨done, hdn, hc, he, hn⟩ := h
  have hz : (zipSub es pD 16).drop 16 = [] := List.drop_of_length_le (by rw [zipSub_len]; omega)
  have he2 : es.drop 16 = [] := List.drop_of_length_le (by rw [hd.1]; omega)
  rw [hz] at he
  rw [he2, List.append_nil] at hn
  simp only [cgo, List.append_nil] at he
  have hr := cgo_rng 0 (zipSub es pD 16)
  have hv := cgo_val 0 (zipSub es pD 16)
  rw [zipSub_len, he, zipSub_val es pD hd.1 rfl, pD_val] at hv
  rw [he] at hr
  simp only at hr hv
  have h1 := valD_lt es hd.2
  have h2 := valD_lt done hr
  rw [hd.1] at h1
  rw [hdn] at h2
  have hP : (0 : Int) < (P : Int) := by decide +kernel
  generalize (65536 : Int) ^ 16 = M at *
  have hc0 : c = 0 := by
    rcases (show c = -1 ∨ c = 0 by omega) with rfl | rfl
    · omega
    · rfl
  subst hc0
  exact ⟨done, ⟨hdn, hr⟩, by omega, hn⟩
theorem dig_ok {es : List Int} (h : Dig es) : NumOk es := ⟨h.1, fun x hx => by have := h.2 x hx; omega⟩
set_option maxRecDepth 100000 in
set_option maxHeartbeats 8000000 in
theorem refLeast_calls (ds : List Int) (hok : NumOk ds) (r : Nat) (hv : valD ds % (P : Int) = ((r % P : Nat) : Int)) (w : World) :
    Calls Try.prog 38 #[A16 ds] w (RLeast r w) := by
  unfold A16
  have c1 : ∀ W, Calls Try.prog 37 #[.agg (i64s ds).toArray] W fun e w' => e = .returned (A16 (carryF ds)) ∧ Below W.heap.size W w' :=
    fun W => carry_calls ds hok.1 (fun x hx => by have := hok.2 x hx; omega) W
  have ok1 := carryF_ok ds hok.1 (fun x hx => by have := hok.2 x hx; omega)
  have c2 : ∀ W, Calls Try.prog 37 #[A16 (carryF ds)] W fun e w' => e = .returned (A16 (carryF (carryF ds))) ∧ Below W.heap.size W w' :=
    fun W => carry_calls _ ok1.1 (fun x hx => by have := ok1.2 x hx; omega) W
  have hdg : Dig (carryF (carryF ds)) := ⟨by rw [carryF_len, carryF_len]; exact hok.1, carryF_two ds hok⟩
  have c3 : ∀ W, Calls Try.prog 37 #[A16 (carryF (carryF ds))] W fun e w' => e = .returned (A16 (carryF (carryF ds))) ∧ Below W.heap.size W w' := by
    have h := fun W => carry_calls (carryF (carryF ds)) hdg.1 (fun x hx => by have := hdg.2 x hx; omega) W
    rw [carryF_id _ hdg.2] at h
    exact h
  have hvv : valD (carryF (carryF ds)) % (P : Int) = ((r % P : Nat) : Int) := by rw [carryF_mod _ ok1.1, carryF_mod _ hok.1, hv]
  have h0 : NBlk ((w.alloc (.cells (i64s ds).toArray 33)).alloc (.cells (i64s Z16).toArray 33)) w.heap.size ds := (NBlk.new _).alloc _
  have hz0 : NBlk ((w.alloc (.cells (i64s ds).toArray 33)).alloc (.cells (i64s Z16).toArray 33)) (w.heap.size + 1) Z16 := by
    have := NBlk.new (w := w.alloc (.cells (i64s ds).toArray 33)) Z16
    rw [show (w.alloc (.cells (i64s ds).toArray 33)).heap.size = w.heap.size + 1 by simp] at this
    exact this
  have hrg := h0.rng
  have hsz := size16' ds hok.1
  have hdl := hok.1
  obtain ⟨cs, hcs⟩ : ∃ cs, i64s ds = cs := ⟨_, rfl⟩
  rw [hcs] at c1 h0 hz0 hrg hsz ⊢
  obtain ⟨fs, hfs⟩ : ∃ fs, carryF (carryF ds) = fs := ⟨_, rfl⟩
  rw [hfs] at c2 c3 hdg hvv
  have HC := Lib.hid (And.intro c1 (And.intro c2 c3))
  have HF := Lib.hid (And.intro hdg hvv)
  have H0 := Lib.hid (And.intro h0 (And.intro hz0 (And.intro hrg (And.intro hsz hdl))))
  clear c1 c2 c3 ok1 hdg hvv h0 hz0 hrg hsz hdl hcs hfs hok hv
  go_enter Try.func38, Try.ntmps38
  go_wp2_with (refine wpList_load_mid rfl 33 _ rfl w.heap.size 0 rfl cs _ H0.out.2.2.1 Try.underlying33 rfl H0.out.2.2.2.1 ?_)
  refine (HC.out.1 _).mono ?_
  rintro e w1 ⟨rfl, b1⟩
  go_wp2_with fail
  refine (HC.out.2.1 _).mono ?_
  rintro e w2 ⟨rfl, b2⟩
  go_wp2_with fail
  refine (HC.out.2.2 _).mono ?_
  rintro e w3 ⟨rfl, b3⟩
  have b03 := (b1.then_ b2).then_ b3
  have n3 := H0.out.1.later b03
  have z3 := H0.out.2.1.later b03
  have HT := Lib.hid (n3.there (n := (i64s fs).toArray.size) (by simp [i64s, HF.out.1.1, H0.out.2.2.2.2]))
  have HS := Lib.hid (size16a fs HF.out.1.1)
  have HO := Lib.hid (one16 fs)
  have hL : LsS r w.heap.size w (w3.setCells w.heap.size 0 (i64s fs)) fs :=
    ⟨HF.out.1, HF.out.2, n3.setAll (by rw [H0.out.2.2.2.2, HF.out.1.1]), z3.setFar (by omega) _, below_cells (Nat.le_refl _) _ _ _ (below2 b03)⟩
  have HLs := Lib.hid hL
  clear b1 b2 b3 b03 n3 z3 hL
  go_wp2_with (refine wpList_store_mid rfl 33 _ _ rfl w.heap.size 0 (i64s fs).toArray rfl rfl HT.out HS.out HO.out ?_)
  go_frame
  go_loopw [11] (fun _ wr => ∃ es, LsS r w.heap.size w wr es) (fun _ wr => numAt wr w.heap.size)
  case atStart => exact ⟨fs, HLs.out⟩
  case round =>
    obtain ⟨es, hls⟩ := hrel
    have HL2 := Lib.hid hls
    have hrg := hls.2.2.1.rng
    have hsz := size16' es hls.1.1
    have HR := Lib.hid (And.intro hrg hsz)
    clear hls hrg hsz
    go_wp2_with (refine wpList_load_mid rfl 33 _ rfl w.heap.size 0 rfl (i64s es) _ HR.out.1 Try.underlying33 rfl HR.out.2 ?_)
    refine (refBelow_calls es HL2.out.1.1 HL2.out.1.2 _).mono ?_
    rintro e w4 ⟨rfl, b4⟩
    by_cases hlt : valD es < (P : Int)
    · rw [decide_eq_true hlt]
      have n4 := HL2.out.2.2.1.later b4
      have z4 := HL2.out.2.2.2.1.later b4
      have hel := HL2.out.1.1
      have hval : valD es = ((r % P : Nat) : Int) := by
        have h1 := (valD_lt es HL2.out.1.2).1
        have h2 := HL2.out.2.1
        rwa [Int.emod_eq_of_lt h1 hlt] at h2
      have hbf := below_cells (show w.heap.size ≤ w.heap.size + 1 by omega) (i64s es) 0 _ (HL2.out.2.2.2.2.then_ b4)
      have HR4 := Lib.hid (And.intro n4.rng (And.intro (z4.there (n := (i64s es).toArray.size) (by simp [i64s, hel, Z16])) (And.intro (size16' es hel) (And.intro (size16a es hel) (And.intro (one16 es) (And.intro (ld16 (z4.setAll (ms := es) (by rw [hel]; rfl)) hel) (And.intro hbf hval)))))))
      clear n4 z4 hel hval hbf b4 hlt
      go_wp2_with (first
        | (refine wpList_load_mid rfl 33 _ rfl w.heap.size 0 rfl (i64s es) _ HR4.out.1 Try.underlying33 rfl HR4.out.2.2.1 ?_)
        | (refine wpList_store_mid rfl 33 _ _ rfl (w.heap.size + 1) 0 (i64s es).toArray rfl rfl HR4.out.2.1 HR4.out.2.2.2.1 HR4.out.2.2.2.2.1 ?_))
      exact bodyPost_ret (v := .agg (i64s es).toArray) (results_cell rfl _ _ _ _ rfl HR4.out.2.2.2.2.2.1) rfl ⟨es, rfl, HL2.out.1, HR4.out.2.2.2.2.2.2.2, HR4.out.2.2.2.2.2.2.1⟩
    · rw [decide_eq_false hlt]
      go_wp2_with fail
      refine (refP_calls _).mono ?_
      rintro e w5 ⟨rfl, b5⟩
      have b45 := b4.then_ b5
      have n5 := HL2.out.2.2.1.later b45
      have z5 := HL2.out.2.2.2.1.later b45
      have bw5 := HL2.out.2.2.2.2.then_ b45
      have hzp : NBlk (w5.alloc (.cells (i64s Z16).toArray 33)) w5.heap.size Z16 := NBlk.new _
      have lt5 : w.heap.size + 1 < w5.heap.size := z5.lt
      have np := hzp.setAll (ms := pD) rfl
      have n6 := (n5.alloc (.cells (i64s Z16).toArray 33)).setFar (g2 := w5.heap.size) (by omega) (i64s pD)
      have z6 := (z5.alloc (.cells (i64s Z16).toArray 33)).setFar (g2 := w5.heap.size) (by omega) (i64s pD)
      have bw6 := below_cells bw5.size (i64s pD) 0 _ (bw5.alloc bw5.size (.cells (i64s Z16).toArray 33))
      have HT6 := Lib.hid (hzp.there (n := (i64s pD).toArray.size) rfl)
      have HS6 := Lib.hid (size16a pD rfl)
      have HO6 := Lib.hid (one16 pD)
      obtain ⟨gp, hgp⟩ : ∃ gp, w5.heap.size = gp := ⟨_, rfl⟩
      rw [hgp] at np n6 z6 bw6 HT6 lt5
      have hin0 : InS es w.heap.size 0 0 ((w5.alloc (.cells (i64s Z16).toArray 33)).setCells gp 0 (i64s pD)) := ⟨[], rfl, by decide, rfl, n6⟩
      have HI := Lib.hid (And.intro hin0 (And.intro np (And.intro z6 bw6)))
      have HGE : Hid ((P : Int) ≤ valD es) := Lib.hid (by omega)
      have HDG := Lib.hid HL2.out.1
      have HVM := Lib.hid HL2.out.2.1
      have HNUM : Hid (numAt wr w.heap.size = (valD es).toNat) := Lib.hid HL2.out.2.2.1.num
      clear b45 n5 z5 bw5 hzp np n6 z6 bw6 hin0 hlt b4 b5
      go_wp2_with (refine wpList_store_mid rfl 33 _ _ rfl gp 0 (i64s pD).toArray rfl rfl HT6.out HS6.out HO6.out ?_)
      clear hgp
      go_loopw [4, 5] (fun cv i wi => ∃ (k : Nat) (c : Int), k ≤ 16 ∧ i = .int .i64 (k : Int) ∧ cv = .int .i64 c ∧ InS es w.heap.size k c wi ∧ NBlk wi gp pD ∧ NBlk wi (w.heap.size + 1) Z16 ∧ Below w.heap.size w wi) (fun _ i _ => 16 - (intOf i).toNat)
      case atStart => exact ⟨0, 0, by omega, rfl, rfl, HI.out.1, HI.out.2.1, HI.out.2.2.1, HI.out.2.2.2⟩
      case round =>
        obtain ⟨k, c, hk, rfl, rfl, hin, hpn, hzn, hbw⟩ := hrel
        by_cases hp : k < 16
        · have hke : k < es.length := by rw [HDG.out.1]; exact hp
          have hkp : k < pD.length := hp
          obtain ⟨a, ha⟩ : ∃ a, es[k]? = some a := ⟨_, List.getElem?_eq_getElem hke⟩
          obtain ⟨p, hpp⟩ : ∃ p, pD[k]? = some p := ⟨_, List.getElem?_eq_getElem hkp⟩
          have hab := HDG.out.2 a (List.mem_of_getElem? ha)
          have hpb := pD_rng p (List.mem_of_getElem? hpp)
          have hin2 := hin.step hp HDG.out.1 ha hpp hab hpb
          obtain ⟨done, hd, hc, he, hn⟩ := hin
          have g1 : wr.cell? ⟨w.heap.size, k, none⟩ = some (.int .i64 a) := hn.cell (by rw [List.getElem?_append_right (by omega), hd, Nat.sub_self, List.getElem?_drop, Nat.add_zero, ha])
          have g2 := hn.frozen k
          have g3 := hpn.cell hpp
          have hlg : gp ≠ w.heap.size := by omega
          have hnx := hpn.other (k := k) (x := .int .i64 (a - p + c - (a - p + c) / 65536 * 65536)) (show w.heap.size ≠ gp by omega)
          have hzx := hzn.other (k := k) (x := .int .i64 (a - p + c - (a - p + c) / 65536 * 65536)) (show w.heap.size ≠ w.heap.size + 1 by omega)
          have hbx := hbw.setCell (p := ⟨w.heap.size, k, none⟩) (Nat.le_refl _) (.int .i64 (a - p + c - (a - p + c) / 65536 * 65536))
          have HN := Lib.hid (And.intro hin2 (And.intro hnx (And.intro hzx hbx)))
          have e1 : IntKind.i64.wrap ((k : Int) + 1) = (k : Int) + 1 := IntWalk.i64_in _ (by omega)
          have e2 : IntKind.i64.wrap (a - p) = a - p := IntWalk.i64_in _ (by omega)
          have e3 : IntKind.i64.wrap (a - p + c) = a - p + c := IntWalk.i64_in _ (by omega)
          have hbk : decide ((k : Int) < 16) = true := by simp; omega
          have HBW := Lib.hid hbw
          clear hpn hzn hbw hn he hd ha hpp hin2 hnx hzx hbx hke hkp
          go_wp2_with fail
          try rw [hbk]
          go_quiet (fail)
          go_wp2_with fail
          exact ⟨⟨k + 1, _, by omega, by go_num, rfl, HN.out.1, HN.out.2.1, HN.out.2.2.1, (HBW.out.drewN nq).setCell (p := ⟨w.heap.size, k, none⟩) (Nat.le_refl _) _⟩, by simp [intOf]; omega⟩
        · obtain rfl : k = 16 := by omega
          obtain ⟨hs, hd1, hd2, hd3⟩ := hin.done HDG.out HGE.out
          have hls : LsS r w.heap.size w wr hs := ⟨hd1, by rw [hd2, Int.sub_emod, Int.emod_self, Int.sub_zero, Int.emod_emod, HVM.out], hd3, hzn, hbw⟩
          have hms : ∀ x, x = (valD es).toNat → numAt wr w.heap.size < x := by
            intro x hx
            have h1 := HGE.out
            have h3 : (0 : Int) < (P : Int) := by decide +kernel
            rw [hx, hd3.num, hd2]
            omega
          have HLN := Lib.hid hls
          have HMS := Lib.hid hms
          clear hin hls hms hd1 hd2 hd3 hpn hzn hbw
          go_wp2_with fail
          exact ⟨⟨hs, HLN.out⟩, HMS.out _ HNUM.out⟩
end Go.Proofs.Ytpdoegfmngibgaa
