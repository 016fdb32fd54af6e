/- Layer 19: SpoolLoses, walked. -/
import Derived.Test.YthhnbpbebplcoaaSpN
import Derived.Test.YthhnbpbebplcoaaSpL
namespace Go.Proofs.Ythhnbpbebplcoaa
open Go.ChangeShapes Go.WideShapes Go.ChangeAt Go.RowKit Go.IntWalk
set_option linter.unusedVariables false

theorem wantL_cons (y : List UInt8) (ys : List (List UInt8)) : wantL (y :: ys) = (lineF y ++ [10]) ++ wantL ys := by
  unfold wantL; rw [List.map_cons, flatL_cons]; simp
/-- A beginning of lines: whole lines, and a beginning of one. -/
theorem pref_lines : ∀ (ys : List (List UInt8)) (P : Nat), ∃ k r, k ≤ ys.length ∧ (wantL ys).take P = wantL (ys.take k) ++ r ∧ (10 : UInt8) ∉ r ∧ ∀ a, a ≤ ys.length → (wantL (ys.take a)).length ≤ P → a ≤ k
  | [], P => ⟨0, [], Nat.le_refl _, by simp [wantL, flatL], by simp, fun a ha _ => ha⟩
  | y :: ys, P => by
    by_cases hP : P < (lineF y ++ [10]).length
    · refine ⟨0, (lineF y).take P, Nat.zero_le _, ?_, ?_, ?_⟩
      · have hP2 : P ≤ (lineF y).length := by simp at hP; omega
        rw [wantL_cons, List.take_append_of_le_length (by omega), List.take_append_of_le_length hP2]
        simp [wantL, flatL]
      · intro h; exact lineF_no10 y (List.mem_of_mem_take h)
      · intro a ha hle
        cases a with
        | zero => exact Nat.le_refl _
        | succ a =>
          rw [List.take_succ_cons, wantL_cons, List.length_append] at hle
          omega
    · obtain ⟨Q, hQ⟩ : ∃ Q, P = (lineF y ++ [10]).length + Q := ⟨P - (lineF y ++ [10]).length, by omega⟩
      obtain ⟨k, r, h1, h2, h3, h4⟩ := pref_lines ys Q
      refine ⟨k + 1, r, by simp; omega, ?_, h3, ?_⟩
      · rw [wantL_cons, hQ, List.take_length_add_append, h2, List.take_succ_cons, wantL_cons, List.append_assoc (lineF y ++ [10])]
      · intro a ha hle
        cases a with
        | zero => omega
        | succ a =>
          rw [List.take_succ_cons, wantL_cons, List.length_append] at hle
          have := h4 a (by simp at ha; omega) (by omega)
          omega
theorem act_true (s : Sp) (hd : s.dn = false) (h : s.act.2 = true) : ∃ q, s.act.1 = { s with bs := s.bs.take (s.sy + q), sy := s.sy + q, dn := true, ac := s.ac + 1, lf := 0 } ∧ s.act.1.lf = 0 := by
  unfold Sp.act at *
  split at h
  · cases h
  · rename_i h0
    rw [if_neg h0]
    split at h
    · rename_i h1
      rw [if_pos h1]
      unfold Sp.off
      simp only [hd]
      exact ⟨_, rfl, rfl⟩
    · cases h
/-- In the loop: j records are there; su of them are synced. -/
def InS (xs : List (List UInt8)) (j su : Nat) (s : Sp) : Prop := s.Ok ∧ s.ac ≤ 2 * j ∧ su ≤ j ∧ s.dn = false ∧ s.bs = wantL (xs.take j) ∧ s.sy = (wantL (xs.take su)).length
/-- Out of it. -/
def ExS (xs : List (List UInt8)) (md su : Nat) (s : Sp) : Prop := (su ≤ md ∧ md ≤ xs.length) ∧ s.Ok ∧ s.ac ≤ 200 ∧
  ((s.dn = false ∧ s.bs = wantL (xs.take md) ∧ s.sy = (wantL (xs.take su)).length) ∨ (s.dn = true ∧ s.lf = 0 ∧ ∃ P, s.bs = (wantL (xs.take md)).take P ∧ (wantL (xs.take su)).length ≤ P))
theorem exit_open {xs : List (List UInt8)} {md su : Nat} {s : Sp} (h : ExS xs md su s) (kp : Int) :
    ∃ k t, su ≤ k ∧ k ≤ md ∧ md ≤ xs.length ∧ (s.off kp).on.Ok ∧ (s.off kp).on.open_ = (t, xs.take k, 0) ∧ t.bs = wantL (xs.take k) ∧ t.dn = false ∧ t.lf = 0 ∧ t.Ok ∧ t.ac ≤ 200 := by
  obtain ⟨⟨h1, h2⟩, hok, hac, hs⟩ := h
  have hok2 := Sp.Ok.on (Sp.Ok.off hok kp)
  have hoff : ∃ P, (s.off kp).bs = (wantL (xs.take md)).take P ∧ (wantL (xs.take su)).length ≤ P ∧ (s.off kp).lf = 0 := by
    rcases hs with ⟨hd, hb, hsy⟩ | ⟨hd, hl, P, hb, hP⟩
    · refine ⟨s.sy + s.offK kp, ?_, by omega, ?_⟩
      · unfold Sp.off; rw [if_neg (by simp [hd])]; dsimp only; rw [hb]
      · unfold Sp.off; rw [if_neg (by simp [hd])]
    · refine ⟨P, ?_, hP, ?_⟩
      · unfold Sp.off; rw [if_pos hd]; exact hb
      · unfold Sp.off; rw [if_pos hd]; exact hl
  obtain ⟨P, hb, hP, hl⟩ := hoff
  obtain ⟨k, r, hk1, hk2, hk3, hk4⟩ := pref_lines (xs.take md) P
  have hmd : (xs.take md).length = md := by rw [List.length_take]; omega
  have htt : ∀ a, a ≤ md → (xs.take md).take a = xs.take a := fun a ha => by rw [List.take_take, Nat.min_eq_left ha]
  rw [hmd] at hk1
  have hsu : su ≤ k := hk4 su (by omega) (by rw [htt su h1]; exact hP)
  rw [htt k hk1] at hk2
  have hsp : splitF (s.off kp).on.bs = ((xs.take k).map lineF, r) := by
    show splitF (s.off kp).bs = _
    rw [hb, hk2]
    exact splitF_uniq _ _ (lines_no10 _) hk3
  have hln : (s.off kp).on.lines = (xs.take k).map lineF := by unfold Sp.lines; rw [hsp]
  have hop : (s.off kp).on.open_ = ({ (s.off kp).on with bs := wantL (xs.take k), sy := min (s.off kp).on.sy (wantL (xs.take k)).length }, xs.take k, 0) := by
    unfold Sp.open_
    rw [if_neg (by simp [Sp.on]), hln, recsL_lines]
    rfl
  have hoko := Sp.Ok.open_ hok2
  rw [hop] at hoko
  refine ⟨k, _, hsu, hk1, h2, hok2, hop, rfl, rfl, hl, hoko, ?_⟩
  show (s.off kp).ac ≤ 200
  rw [Sp.off_ac]; exact hac
theorem app_in {xs : List (List UInt8)} {j su : Nat} {s : Sp} {x : List UInt8} (h : InS xs j su s) (hj : j < xs.length) (h60 : xs.length ≤ 60) (hx : xs[j] = x) (hw : (wantL xs).length ≤ 40000) :
    ((s.app x).2 = 0 ∧ (s.app x).1.Ok ∧ (s.app x).1.ac ≤ 2 * j + 1 ∧ (s.app x).1.dn = false ∧ (s.app x).1.bs = wantL (xs.take (j + 1)) ∧ (s.app x).1.sy = (wantL (xs.take su)).length) ∨
    ((s.app x).2 = 50 ∧ ExS xs (j + 1) su (s.app x).1) := by
  obtain ⟨hok, hac, hsu, hd, hb, hsy⟩ := h
  have hts := take_snocL xs j hj
  rw [hx] at hts
  have hw2 : wantL (xs.take (j + 1)) = wantL (xs.take j) ++ (lineF x ++ [10]) := by rw [hts, wantL_snoc]
  have hw3 := wantL_take xs (j + 1)
  have hnf : s.full x = false := by
    unfold Sp.full
    refine decide_eq_false ?_
    rw [hb]
    rw [hw2] at hw3
    simp only [List.length_append, List.length_cons, List.length_nil] at hw3
    omega
  have hap : s.app x = (({ s with bs := wantL (xs.take (j + 1)) } : Sp).act.1, if ({ s with bs := wantL (xs.take (j + 1)) } : Sp).act.2 then 50 else 0) := by
    unfold Sp.app
    rw [if_neg (by simp [hd]), if_neg (by simp [hnf]), hw2, hb]
  have hok1 := Sp.Ok.app hok x
  have hac1 := s.app_ac x
  cases ha : ({ s with bs := wantL (xs.take (j + 1)) } : Sp).act.2
  · left
    obtain ⟨k1, k2, k3, k4⟩ := act_keeps _ ha
    refine ⟨by rw [hap, ha]; rfl, hok1, by omega, ?_, ?_, ?_⟩
    · rw [hap]; exact k3.trans hd
    · rw [hap]; exact k1
    · rw [hap]; exact k2.trans hsy
  · right
    obtain ⟨q, hq, hlf⟩ := act_true _ (show ({ s with bs := wantL (xs.take (j + 1)) } : Sp).dn = false from hd) ha
    refine ⟨by rw [hap, ha]; rfl, ⟨by omega, by omega⟩, hok1, by omega, .inr ?_⟩
    rw [hap]
    dsimp only
    refine ⟨by rw [hq], hlf, s.sy + q, by rw [hq], by omega⟩
theorem sync_in {xs : List (List UInt8)} {j su : Nat} {s : Sp} (hj : j < xs.length) (h60 : xs.length ≤ 60) (hok : s.Ok) (hac : s.ac ≤ 2 * j + 1) (hsu : su ≤ j) (hd : s.dn = false) (hb : s.bs = wantL (xs.take (j + 1))) (hsy : s.sy = (wantL (xs.take su)).length) :
    (s.sync.2 = 0 ∧ InS xs (j + 1) (j + 1) s.sync.1) ∨ (s.sync.2 = 50 ∧ ExS xs (j + 1) su s.sync.1) := by
  have hs : s.sync = (if s.act.2 then (s.act.1, 50) else ({ s.act.1 with sy := s.act.1.bs.length }, 0)) := by unfold Sp.sync; rw [if_neg (by simp [hd])]
  have hok1 := Sp.Ok.sync hok
  have hac1 := s.sync_ac
  cases ha : s.act.2
  · left
    obtain ⟨k1, k2, k3, k4⟩ := act_keeps _ ha
    rw [ha] at hs
    have hs2 : s.sync = ({ s.act.1 with sy := s.act.1.bs.length }, 0) := hs
    refine ⟨by rw [hs2], hok1, by omega, Nat.le_refl _, ?_, ?_, ?_⟩
    · rw [hs2]; exact k3.trans hd
    · rw [hs2]; exact k1.trans hb
    · rw [hs2]; dsimp only; rw [k1, hb]
  · right
    obtain ⟨q, hq, hlf⟩ := act_true _ hd ha
    rw [ha] at hs
    have hs2 : s.sync = (s.act.1, 50) := hs
    refine ⟨by rw [hs2], ⟨by omega, by omega⟩, hok1, by omega, .inr ?_⟩
    rw [hs2]
    dsimp only
    exact ⟨by rw [hq], hlf, s.sy + q, by rw [hq, hb], by omega⟩
theorem spoolLoses_open0 {H : Type} {enc : TypeId × Value → H} {w : World} {base : Nat} {held : Bool} {A : Option Addr} {n c : Nat} {d : DataW H} {p : List MemPlace}
    (h : DataW.Trod enc Try.prog w base (fun _ => true) held 34 (.slice A n c) d p) (hwt : ∀ q ∈ d.weights Try.prog 34, q ≤ reachBytes) : ∃ xs, Own34 w A n c xs := strs_open h hwt
theorem spoolLoses_open1 {H : Type} {enc : TypeId × Value → H} {w : World} {base : Nat} {held : Bool} {A : Option Addr} {n c : Nat} {d : DataW H} {p : List MemPlace}
    (h : DataW.Trod enc Try.prog w base (fun _ => true) held 44 (.slice A n c) d p) (hwt : ∀ q ∈ d.weights Try.prog 44, q ≤ reachBytes) : ∃ xs, Own44 w A n c xs := bools_open h hwt
set_option maxRecDepth 100000 in
set_option maxHeartbeats 8000000 in
theorem spoolLoses_walk (A : Option Addr) (n c : Nat) (xs : List (List UInt8)) {w : World} (hx : Own34 w A n c xs) (A2 : Option Addr) (n2 c2 : Nat) (ys : List Bool) (hy : Own44 w A2 n2 c2 ys)
    (an : Int) (han : (Lit.int .i64 an).wf = true) (kp : Int) (hkp : (Lit.int .i64 kp).wf = true) :
    Calls Try.prog 4 #[.slice A n c, .slice A2 n2 c2, .int .i64 an, .int .i64 kp] w fun e w' => e = .returned (.bool true) ∧ Below w.heap.size w w' := by
  have hkb := And.intro (bounds_i64 hkp) (bounds_i64 han)
  obtain ⟨hrv, hn, hnc, hc47, hxl⟩ := hx
  obtain ⟨hrv2, hn2, hnc2, hc472⟩ := hy
  have hn47 : n ≤ 140737488355328 := by omega
  have hn472 : n2 ≤ 140737488355328 := by omega
  have HX := Lib.hid (And.intro hrv (And.intro hn hxl))
  have HN := Lib.hid hn.out
  have HN2 := Lib.hid hn2.out
  clear hn hn2 hc47 hc472 hxl han hkp
  go_enter Try.func4, Try.ntmps4
  go_wp2_with fail
  refine (alive19_calls w).mono ?_
  rintro e w1 ⟨rfl, b1⟩
  have HR1 := Lib.hid (hrv.below b1)
  have HR2 := Lib.hid (hrv2.below b1)
  have B1 := Lib.hid b1
  clear b1 hrv hrv2
  go_wp2_with fail
  go_loopw [9, 25] (fun size i wr => ∃ k t : Nat, k ≤ n ∧ t ≤ 16384 ∧ i = .int .i64 (k : Int) ∧ size = .int .i64 (t : Int) ∧ Hid (t = totL (xs.take k)) ∧ wr = w1) (fun _ i _ => n - (intOf i).toNat)
  case atStart => exact ⟨0, 0, Nat.zero_le _, Nat.zero_le _, rfl, rfl, Lib.hid rfl, rfl⟩
  case round =>
    obtain ⟨k, t, hk, ht, rfl, rfl, htt, rfl⟩ := hrel
    by_cases hp : k < n
    · have hkx : k < xs.length := by rw [← HN.out]; exact hp
      obtain ⟨ba, oa, rfl, _, ca⟩ := HR1.out.some (by simp; omega)
      obtain ⟨x, hxk⟩ : ∃ x, xs[k] = x := ⟨_, rfl⟩
      have c2 := ca k (strV x) (by simp [hkx, hxk])
      unfold strV at c2
      have hxlen : x.length ≤ 140737488355328 := by rw [← hxk]; exact HX.out.2.2 _ (List.getElem_mem hkx)
      have hts := take_snocL xs k hkx
      rw [hxk] at hts
      have HT := Lib.hid (And.intro hts htt.out)
      clear ca hxk hts htt
      by_cases hbig : 16384 < t + x.length
      · go_wp2_with fail
        go_ret
        exact ⟨rfl, B1.out⟩
      · go_wp2_with fail
        refine ⟨⟨k + 1, t + x.length, by omega, by omega, by go_num, by go_num, Lib.hid ?_, trivial⟩, by simp [intOf]; omega⟩
        rw [HT.out.1, totL_snoc, HT.out.2]
    · obtain rfl : k = n := by omega
      obtain ⟨wa, hwa⟩ : ∃ x, x = wr := ⟨_, rfl⟩
      subst hwa
      have hall : xs.take k = xs := List.take_of_length_le (by rw [← HN.out]; exact Nat.le_refl _)
      rw [hall] at htt
      by_cases h60 : 60 < k
      · go_wp2_with fail
        go_ret
        exact ⟨rfl, B1.out⟩
      have hwl := wantL_len xs
      have hxk : xs.length = k := HN.out.symm
      rw [← htt.out, hxk] at hwl
      have hwl2 : (wantL xs).length ≤ 40000 := by omega
      have HT := Lib.hid (And.intro hxk hwl2)
      have HB := Lib.hid (Below.refl wa.heap.size wa)
      clear hwl hxk htt hall hwl2
      go_wp2_with fail
      refine (new_calls [] (by decide) wa).mono ?_
      rintro e w2 ⟨g, v, rfl, hg, p2, b2⟩
      have H2 : Hid (Mine wa.heap.size wa w2 g v (Sp.new [])) := Lib.hid ⟨p2, hg, b2, b2.size⟩
      clear p2 b2
      go_wp2_with fail
      refine (arm_calls wa.heap.size g v (Sp.new []) an kp w2 H2.out.1).mono ?_
      rintro e w3 ⟨rfl, p3, n3⟩
      have H3 : Hid (Mine wa.heap.size wa w3 g v ((Sp.new []).arm an kp) ∧ InS xs 0 0 ((Sp.new []).arm an kp)) := Lib.hid ⟨H2.out.next p3 n3, Sp.Ok.arm (Sp.new_ok [] (by decide)) an kp hkb.2.2 hkb.1, Nat.le_refl _, Nat.le_refl _, rfl, rfl, rfl⟩
      clear p3 n3
      go_wp2_with fail
      go_loopw [13, 14, 46] (fun sv mv i w4 => ∃ (j su : Nat) (v' : Value) (s : Sp), j ≤ k ∧ i = .int .i64 (j : Int) ∧ mv = .int .i64 (j : Int) ∧ sv = .int .i64 (su : Int) ∧ Mine wa.heap.size wa w4 g v' s ∧ InS xs j su s) (fun _ _ i _ => k - (intOf i).toNat)
      case atStart => exact ⟨0, 0, v, _, Nat.zero_le _, rfl, rfl, rfl, H3.out.1, H3.out.2⟩
      case round =>
        obtain ⟨j, su, v4, s, hj, rfl, rfl, rfl, m4, hin⟩ := hrel
        have hsj : su ≤ j := hin.2.2.1
        have HM := Lib.hid (And.intro m4 hin)
        clear m4 hin
        by_cases hp : j < k
        · have hjx : j < xs.length := by rw [HT.out.1]; exact hp
          obtain ⟨x, hxj⟩ : ∃ x, xs[j] = x := ⟨_, rfl⟩
          obtain ⟨ba, oa, rfl, _, ca⟩ := (HR1.out.below (HB.out.then_ HM.out.1.2.2.1)).some (by simp; omega)
          have c2 := ca j (strV x) (by simp [hjx, hxj])
          unfold strV at c2
          have HXJ := Lib.hid hxj
          have hxl : x.length ≤ 68719476736 := by
            have hw3 := wantL_take xs (j + 1)
            rw [take_snocL xs j hjx, hxj, wantL_snoc] at hw3
            have h4 := lineF_len x
            have h5 := HT.out.2
            simp only [List.length_append, List.length_cons, List.length_nil] at hw3
            omega
          clear ca hxj
          go_wp2_with fail
          refine (append_calls wa.heap.size g v4 s x hxl HM.out.2.1 (by have := HM.out.2.2.1; omega) wr HM.out.1.1 HM.out.1.2.2.2).mono ?_
          rintro e w5 ⟨rfl, v5, p5, n5⟩
          have M5 := Lib.hid (HM.out.1.next p5 n5)
          clear p5 n5
          rcases app_in HM.out.2 hjx (by rw [HT.out.1]; omega) HXJ.out HT.out.2 with ⟨h0, hok, hac, hdn, hbs, hsy⟩ | ⟨h0, hex⟩
          · rw [h0]
            have HA := Lib.hid (And.intro hok (And.intro hac (And.intro hdn (And.intro hbs hsy))))
            clear h0 hok hac hdn hbs hsy
            generalize (s.app x).1 = t at *
            have hno : ∀ (h : Hid (InS xs (j + 1) su t)), True := fun _ => trivial
            clear hno
            have HIN : Hid (InS xs (j + 1) su t) := Lib.hid ⟨HA.out.1, by have := HA.out.2.1; omega, by omega, HA.out.2.2.1, HA.out.2.2.2.1, HA.out.2.2.2.2⟩
            by_cases hj2 : j < n2
            · have hjy : j < ys.length := by rw [← HN2.out]; exact hj2
              obtain ⟨bb, ob, rfl, _, cb⟩ := (HR2.out.below (HB.out.then_ M5.out.2.2.1)).some (by simp; omega)
              obtain ⟨y, hyj⟩ : ∃ y, ys[j] = y := ⟨_, rfl⟩
              have d2 := cb j (.bool y) (by simp [hjy, hyj])
              clear cb hyj
              cases y with
              | true =>
                go_wp2_with fail
                refine (sync_calls wa.heap.size g v5 t HA.out.1 (by have := HA.out.2.1; omega) w5 M5.out.1).mono ?_
                rintro e w6 ⟨rfl, v6, p6, n6⟩
                have M6 := Lib.hid (M5.out.next p6 n6)
                clear p6 n6
                rcases sync_in hjx (by rw [HT.out.1]; omega) HA.out.1 HA.out.2.1 hsj HA.out.2.2.1 HA.out.2.2.2.1 HA.out.2.2.2.2 with ⟨h0, hin⟩ | ⟨h0, hex⟩
                · rw [h0]
                  have HI := Lib.hid hin
                  clear h0 hin
                  go_wp2_with fail
                  exact ⟨⟨j + 1, j + 1, v6, _, by omega, by go_num, by go_num, by go_num, M6.out, HI.out⟩, by simp [intOf]; omega⟩
                · rw [h0]
                  have HE := Lib.hid hex
                  clear h0 hex HA HIN
                  generalize t.sync.1 = st at *
                  clear M5
                  obtain ⟨md, hmd⟩ : ∃ m, j + 1 = m := ⟨_, rfl⟩
                  have hmdi : (j : Int) + 1 = (md : Int) := by omega
                  have M5 := M6
                  rw [hmd] at HE
                  clear hmd
                  go_wp2_with fail
                  refine (off_calls wa.heap.size g v6 st kp hkb.1 HE.out.2.1 _ M5.out.1).mono ?_
                  rintro e w6b ⟨rfl, v6b, p6, n6⟩
                  have M6b := Lib.hid (M5.out.next p6 n6)
                  clear p6 n6
                  go_wp2_with fail
                  refine (on_calls wa.heap.size g v6b _ w6b M6b.out.1).mono ?_
                  rintro e w7 ⟨rfl, p7, n7⟩
                  have M7 := Lib.hid (M6b.out.next p7 n7)
                  clear p7 n7
                  obtain ⟨k, st3, hk1, hk2, hk3, hok2, hop, hb3, hd3, hl3, hok3, ha3⟩ := exit_open HE.out kp
                  have HO := Lib.hid (And.intro hok2 (And.intro hop (And.intro hb3 (And.intro hd3 (And.intro hl3 (And.intro hok3 ha3))))))
                  clear hok2 hop hb3 hd3 hl3 hok3 ha3
                  go_wp2_with fail
                  refine (open_calls wa.heap.size g v6b _ HO.out.1 w7 M7.out.1 M7.out.2.2.2).mono ?_
                  rintro e w8 ⟨v8, out8, p8, n8, ho8, rfl, ow8⟩
                  rw [HO.out.2.1] at p8 ho8 ⊢
                  dsimp only at p8 ho8 ⊢
                  have M8 := Lib.hid (M7.out.next p8 n8)
                  obtain ⟨A8, n8', c8, rfl, hrv8, hn8, _⟩ := ho8.form
                  have hkx : (xs.take k).length = k := by rw [List.length_take]; omega
                  obtain rfl : n8' = k := by rw [hn8.out, List.length_map]; exact hkx
                  have HR8 := Lib.hid (And.intro hrv8 (And.intro ho8 ow8))
                  clear p8 n8 ho8 ow8 hrv8 hn8
                  have t1 : decide ((n8' : Int) < (su : Int)) = false := decide_eq_false (by omega)
                  have t2 : decide ((md : Int) < (n8' : Int)) = false := decide_eq_false (by omega)
                  have hnc8 : n8' ≤ c := by have := HT.out.1; omega
                  go_wp2_with fail
                  refine (same_calls A8 _ n8' c8 n8' c (xs.take n8') (xs.take n8') w8 HR8.out.1 (Lib.hid hkx.symm) (by rw [List.map_take]; exact (HR1.out.below (HB.out.then_ M8.out.2.2.1)).take _) (Lib.hid hkx.symm) (by omega)).mono ?_
                  rintro e w9 ⟨rfl, k9, rfl⟩
                  rw [show decide (xs.take n8' = xs.take n8') = true from decide_eq_true rfl]
                  have hop2 := open_lines st3 (xs.take n8') HO.out.2.2.2.1 HO.out.2.2.1
                  have HO2 := Lib.hid hop2
                  clear hop2
                  go_wp2_with fail
                  refine (open_calls wa.heap.size g v8 st3 HO.out.2.2.2.2.2.1 _ (M8.out.1.drewN k9) M8.out.2.2.2).mono ?_
                  rintro e w10 ⟨v10, out10, p10, n10, ho10, rfl, ow10⟩
                  rw [HO2.out] at p10 ho10 ⊢
                  dsimp only at p10 ho10 ⊢
                  obtain ⟨A10, n10', c10, rfl, hrv10, hn10, _⟩ := ho10.form
                  have HQ : Hid (RV w10 A8 ((xs.take n8').map strV)) := Lib.hid (by
                    have h4 := HR8.out.2.1
                    have hown := OwnVs.stay (w1 := w10) h4 (fun i hi => n10.block i (h4.lt i hi).2 (by have := (h4.lt i hi).1; have := M7.out.1.lt; omega) (by
                      rw [HR8.out.2.2]
                      intro e
                      have h5 := (M7.out.1.own i e).2
                      have h6 := (h4.lt i hi).1
                      omega))
                    obtain ⟨A', n', c', e, hrv', _, _⟩ := hown.form
                    cases e
                    exact hrv')
                  have M10 := Lib.hid ((M8.out.later ((Below.refl _ _).drewN k9)).next p10 n10)
                  have HR10 := Lib.hid (And.intro hrv10 (Lib.hid (show n10' = (xs.take n8').length by rw [hn10.out]; simp)))
                  obtain ⟨st4, hs4⟩ : ∃ q, ({ st3 with sy := min st3.sy st3.bs.length } : Sp) = q := ⟨_, rfl⟩
                  have hok4 : st4.Ok := by rw [← hs4]; exact ⟨Nat.min_le_right _ _, HO.out.2.2.2.2.2.1.len, HO.out.2.2.2.2.2.1.lf, HO.out.2.2.2.2.2.1.kp⟩
                  have happ := app_plain st4 [109, 111, 114, 101] (by rw [← hs4]; exact HO.out.2.2.2.1) (by rw [← hs4]; exact HO.out.2.2.2.2.1) (by
                    have h1 : st4.bs = wantL (xs.take n8') := by rw [← hs4]; exact HO.out.2.2.1
                    have h2 := wantL_take xs n8'
                    have h3 := lineF_len [109, 111, 114, 101]
                    have h4 := HT.out.2
                    rw [h1]
                    simp at h3
                    omega)
                  have hac4 : st4.ac ≤ 1000 := by rw [← hs4]; have := HO.out.2.2.2.2.2.2; show st3.ac ≤ 1000; omega
                  have hdl4 : st4.dn = false ∧ st4.lf = 0 := by rw [← hs4]; exact ⟨HO.out.2.2.2.1, HO.out.2.2.2.2.1⟩
                  rw [hs4] at M10
                  have H4 := Lib.hid (And.intro hok4 (And.intro happ (And.intro hac4 hdl4)))
                  clear hs4 hok4 happ hac4 hdl4 p10 n10 ho10 ow10 hrv10 hn10
                  go_wp2_with fail
                  refine (same_calls A10 A8 n10' c10 n8' c8 (xs.take n8') (xs.take n8') w10 HR10.out.1 HR10.out.2 HQ.out (Lib.hid hkx.symm) (by omega)).mono ?_
                  rintro e w11 ⟨rfl, k11, rfl⟩
                  rw [show decide (xs.take n8' = xs.take n8') = true from decide_eq_true rfl]
                  go_wp2_with fail
                  refine (append_calls wa.heap.size g v10 st4 [109, 111, 114, 101] (by decide) H4.out.1 (by have := H4.out.2.2.1; omega) _ (M10.out.1.drewN k11) M10.out.2.2.2).mono ?_
                  rintro e w12 ⟨rfl, v12, p12, n12⟩
                  have hsn := sync_plain (st4.app [109, 111, 114, 101]).1 (by rw [H4.out.2.1]; exact H4.out.2.2.2.1) (by rw [H4.out.2.1]; exact H4.out.2.2.2.2)
                  have hokA := Sp.Ok.app H4.out.1 [109, 111, 114, 101]
                  have hacA := st4.app_ac [109, 111, 114, 101]
                  have h0 : (st4.app [109, 111, 114, 101]).2 = 0 := by rw [H4.out.2.1]
                  rw [h0]
                  generalize (st4.app [109, 111, 114, 101]).1 = st5 at *
                  have H5 := Lib.hid (And.intro hsn (And.intro hokA (show st5.ac < 1000000 by have := H4.out.2.2.1; omega)))
                  have M12 := Lib.hid ((M10.out.later ((Below.refl _ _).drewN k11)).next p12 n12)
                  clear p12 n12 hsn hokA hacA h0
                  go_wp2_with fail
                  refine (sync_calls wa.heap.size g v12 st5 H5.out.2.1 H5.out.2.2 w12 M12.out.1).mono ?_
                  rintro e w13 ⟨rfl, v13, p13, n13⟩
                  rw [H5.out.1]
                  dsimp only
                  have M13 := Lib.hid (M12.out.next p13 n13)
                  clear p13 n13
                  go_wp2_with fail
                  go_ret
                  exact ⟨rfl, B1.out.then_ (HB.out.then_ M13.out.2.2.1)⟩
              | false =>
                go_wp2_with fail
                exact ⟨⟨j + 1, su, v5, t, by omega, by go_num, by go_num, rfl, M5.out, HIN.out⟩, by simp [intOf]; omega⟩
            · go_wp2_with fail
              exact ⟨⟨j + 1, su, v5, t, by omega, by go_num, by go_num, rfl, M5.out, HIN.out⟩, by simp [intOf]; omega⟩
          · rw [h0]
            have HE := Lib.hid hex
            clear h0 hex
            generalize (s.app x).1 = st at *
            obtain ⟨md, hmd⟩ : ∃ m, j + 1 = m := ⟨_, rfl⟩
            have hmdi : (j : Int) + 1 = (md : Int) := by omega
            rw [hmd] at HE
            clear hmd
            go_wp2_with fail
            refine (off_calls wa.heap.size g v5 st kp hkb.1 HE.out.2.1 _ M5.out.1).mono ?_
            rintro e w6 ⟨rfl, v6, p6, n6⟩
            have M6 := Lib.hid (M5.out.next p6 n6)
            clear p6 n6
            go_wp2_with fail
            refine (on_calls wa.heap.size g v6 _ w6 M6.out.1).mono ?_
            rintro e w7 ⟨rfl, p7, n7⟩
            have M7 := Lib.hid (M6.out.next p7 n7)
            clear p7 n7
            obtain ⟨k, st3, hk1, hk2, hk3, hok2, hop, hb3, hd3, hl3, hok3, ha3⟩ := exit_open HE.out kp
            have HO := Lib.hid (And.intro hok2 (And.intro hop (And.intro hb3 (And.intro hd3 (And.intro hl3 (And.intro hok3 ha3))))))
            clear hok2 hop hb3 hd3 hl3 hok3 ha3
            go_wp2_with fail
            refine (open_calls wa.heap.size g v6 _ HO.out.1 w7 M7.out.1 M7.out.2.2.2).mono ?_
            rintro e w8 ⟨v8, out8, p8, n8, ho8, rfl, ow8⟩
            rw [HO.out.2.1] at p8 ho8 ⊢
            dsimp only at p8 ho8 ⊢
            have M8 := Lib.hid (M7.out.next p8 n8)
            obtain ⟨A8, n8', c8, rfl, hrv8, hn8, _⟩ := ho8.form
            have hkx : (xs.take k).length = k := by rw [List.length_take]; omega
            obtain rfl : n8' = k := by rw [hn8.out, List.length_map]; exact hkx
            have HR8 := Lib.hid (And.intro hrv8 (And.intro ho8 ow8))
            clear p8 n8 ho8 ow8 hrv8 hn8
            have t1 : decide ((n8' : Int) < (su : Int)) = false := decide_eq_false (by omega)
            have t2 : decide ((md : Int) < (n8' : Int)) = false := decide_eq_false (by omega)
            have hnc8 : n8' ≤ c := by have := HT.out.1; omega
            go_wp2_with fail
            refine (same_calls A8 _ n8' c8 n8' c (xs.take n8') (xs.take n8') w8 HR8.out.1 (Lib.hid hkx.symm) (by rw [List.map_take]; exact (HR1.out.below (HB.out.then_ M8.out.2.2.1)).take _) (Lib.hid hkx.symm) (by omega)).mono ?_
            rintro e w9 ⟨rfl, k9, rfl⟩
            rw [show decide (xs.take n8' = xs.take n8') = true from decide_eq_true rfl]
            have hop2 := open_lines st3 (xs.take n8') HO.out.2.2.2.1 HO.out.2.2.1
            have HO2 := Lib.hid hop2
            clear hop2
            go_wp2_with fail
            refine (open_calls wa.heap.size g v8 st3 HO.out.2.2.2.2.2.1 _ (M8.out.1.drewN k9) M8.out.2.2.2).mono ?_
            rintro e w10 ⟨v10, out10, p10, n10, ho10, rfl, ow10⟩
            rw [HO2.out] at p10 ho10 ⊢
            dsimp only at p10 ho10 ⊢
            obtain ⟨A10, n10', c10, rfl, hrv10, hn10, _⟩ := ho10.form
            have HQ : Hid (RV w10 A8 ((xs.take n8').map strV)) := Lib.hid (by
              have h4 := HR8.out.2.1
              have hown := OwnVs.stay (w1 := w10) h4 (fun i hi => n10.block i (h4.lt i hi).2 (by have := (h4.lt i hi).1; have := M7.out.1.lt; omega) (by
                rw [HR8.out.2.2]
                intro e
                have h5 := (M7.out.1.own i e).2
                have h6 := (h4.lt i hi).1
                omega))
              obtain ⟨A', n', c', e, hrv', _, _⟩ := hown.form
              cases e
              exact hrv')
            have M10 := Lib.hid ((M8.out.later ((Below.refl _ _).drewN k9)).next p10 n10)
            have HR10 := Lib.hid (And.intro hrv10 (Lib.hid (show n10' = (xs.take n8').length by rw [hn10.out]; simp)))
            obtain ⟨st4, hs4⟩ : ∃ q, ({ st3 with sy := min st3.sy st3.bs.length } : Sp) = q := ⟨_, rfl⟩
            have hok4 : st4.Ok := by rw [← hs4]; exact ⟨Nat.min_le_right _ _, HO.out.2.2.2.2.2.1.len, HO.out.2.2.2.2.2.1.lf, HO.out.2.2.2.2.2.1.kp⟩
            have happ := app_plain st4 [109, 111, 114, 101] (by rw [← hs4]; exact HO.out.2.2.2.1) (by rw [← hs4]; exact HO.out.2.2.2.2.1) (by
              have h1 : st4.bs = wantL (xs.take n8') := by rw [← hs4]; exact HO.out.2.2.1
              have h2 := wantL_take xs n8'
              have h3 := lineF_len [109, 111, 114, 101]
              have h4 := HT.out.2
              rw [h1]
              simp at h3
              omega)
            have hac4 : st4.ac ≤ 1000 := by rw [← hs4]; have := HO.out.2.2.2.2.2.2; show st3.ac ≤ 1000; omega
            have hdl4 : st4.dn = false ∧ st4.lf = 0 := by rw [← hs4]; exact ⟨HO.out.2.2.2.1, HO.out.2.2.2.2.1⟩
            rw [hs4] at M10
            have H4 := Lib.hid (And.intro hok4 (And.intro happ (And.intro hac4 hdl4)))
            clear hs4 hok4 happ hac4 hdl4 p10 n10 ho10 ow10 hrv10 hn10
            go_wp2_with fail
            refine (same_calls A10 A8 n10' c10 n8' c8 (xs.take n8') (xs.take n8') w10 HR10.out.1 HR10.out.2 HQ.out (Lib.hid hkx.symm) (by omega)).mono ?_
            rintro e w11 ⟨rfl, k11, rfl⟩
            rw [show decide (xs.take n8' = xs.take n8') = true from decide_eq_true rfl]
            go_wp2_with fail
            refine (append_calls wa.heap.size g v10 st4 [109, 111, 114, 101] (by decide) H4.out.1 (by have := H4.out.2.2.1; omega) _ (M10.out.1.drewN k11) M10.out.2.2.2).mono ?_
            rintro e w12 ⟨rfl, v12, p12, n12⟩
            have hsn := sync_plain (st4.app [109, 111, 114, 101]).1 (by rw [H4.out.2.1]; exact H4.out.2.2.2.1) (by rw [H4.out.2.1]; exact H4.out.2.2.2.2)
            have hokA := Sp.Ok.app H4.out.1 [109, 111, 114, 101]
            have hacA := st4.app_ac [109, 111, 114, 101]
            have h0 : (st4.app [109, 111, 114, 101]).2 = 0 := by rw [H4.out.2.1]
            rw [h0]
            generalize (st4.app [109, 111, 114, 101]).1 = st5 at *
            have H5 := Lib.hid (And.intro hsn (And.intro hokA (show st5.ac < 1000000 by have := H4.out.2.2.1; omega)))
            have M12 := Lib.hid ((M10.out.later ((Below.refl _ _).drewN k11)).next p12 n12)
            clear p12 n12 hsn hokA hacA h0
            go_wp2_with fail
            refine (sync_calls wa.heap.size g v12 st5 H5.out.2.1 H5.out.2.2 w12 M12.out.1).mono ?_
            rintro e w13 ⟨rfl, v13, p13, n13⟩
            rw [H5.out.1]
            dsimp only
            have M13 := Lib.hid (M12.out.next p13 n13)
            clear p13 n13
            go_wp2_with fail
            go_ret
            exact ⟨rfl, B1.out.then_ (HB.out.then_ M13.out.2.2.1)⟩
        · obtain rfl : j = k := by omega
          obtain ⟨md, hmd⟩ : ∃ m, j = m := ⟨_, rfl⟩
          subst hmd
          have HE : Hid (ExS xs j su s) := Lib.hid ⟨⟨hsj, by rw [HT.out.1]; exact Nat.le_refl _⟩, HM.out.2.1, by have := HM.out.2.2.1; omega, .inl HM.out.2.2.2.2⟩
          have M5 := Lib.hid HM.out.1
          clear HM
          go_wp2_with fail
          refine (off_calls wa.heap.size g v4 s kp hkb.1 HE.out.2.1 _ M5.out.1).mono ?_
          rintro e w6 ⟨rfl, v6, p6, n6⟩
          have M6 := Lib.hid (M5.out.next p6 n6)
          clear p6 n6
          go_wp2_with fail
          refine (on_calls wa.heap.size g v6 _ w6 M6.out.1).mono ?_
          rintro e w7 ⟨rfl, p7, n7⟩
          have M7 := Lib.hid (M6.out.next p7 n7)
          clear p7 n7
          obtain ⟨k, st3, hk1, hk2, hk3, hok2, hop, hb3, hd3, hl3, hok3, ha3⟩ := exit_open HE.out kp
          have HO := Lib.hid (And.intro hok2 (And.intro hop (And.intro hb3 (And.intro hd3 (And.intro hl3 (And.intro hok3 ha3))))))
          clear hok2 hop hb3 hd3 hl3 hok3 ha3
          go_wp2_with fail
          refine (open_calls wa.heap.size g v6 _ HO.out.1 w7 M7.out.1 M7.out.2.2.2).mono ?_
          rintro e w8 ⟨v8, out8, p8, n8, ho8, rfl, ow8⟩
          rw [HO.out.2.1] at p8 ho8 ⊢
          dsimp only at p8 ho8 ⊢
          have M8 := Lib.hid (M7.out.next p8 n8)
          obtain ⟨A8, n8', c8, rfl, hrv8, hn8, _⟩ := ho8.form
          have hkx : (xs.take k).length = k := by rw [List.length_take]; omega
          obtain rfl : n8' = k := by rw [hn8.out, List.length_map]; exact hkx
          have HR8 := Lib.hid (And.intro hrv8 (And.intro ho8 ow8))
          clear p8 n8 ho8 ow8 hrv8 hn8
          have t1 : decide ((n8' : Int) < (su : Int)) = false := decide_eq_false (by omega)
          have t2 : decide ((j : Int) < (n8' : Int)) = false := decide_eq_false (by omega)
          have hnc8 : n8' ≤ c := by have := HT.out.1; omega
          go_wp2_with fail
          refine (same_calls A8 _ n8' c8 n8' c (xs.take n8') (xs.take n8') w8 HR8.out.1 (Lib.hid hkx.symm) (by rw [List.map_take]; exact (HR1.out.below (HB.out.then_ M8.out.2.2.1)).take _) (Lib.hid hkx.symm) (by omega)).mono ?_
          rintro e w9 ⟨rfl, k9, rfl⟩
          rw [show decide (xs.take n8' = xs.take n8') = true from decide_eq_true rfl]
          have hop2 := open_lines st3 (xs.take n8') HO.out.2.2.2.1 HO.out.2.2.1
          have HO2 := Lib.hid hop2
          clear hop2
          go_wp2_with fail
          refine (open_calls wa.heap.size g v8 st3 HO.out.2.2.2.2.2.1 _ (M8.out.1.drewN k9) M8.out.2.2.2).mono ?_
          rintro e w10 ⟨v10, out10, p10, n10, ho10, rfl, ow10⟩
          rw [HO2.out] at p10 ho10 ⊢
          dsimp only at p10 ho10 ⊢
          obtain ⟨A10, n10', c10, rfl, hrv10, hn10, _⟩ := ho10.form
          have HQ : Hid (RV w10 A8 ((xs.take n8').map strV)) := Lib.hid (by
            have h4 := HR8.out.2.1
            have hown := OwnVs.stay (w1 := w10) h4 (fun i hi => n10.block i (h4.lt i hi).2 (by have := (h4.lt i hi).1; have := M7.out.1.lt; omega) (by
              rw [HR8.out.2.2]
              intro e
              have h5 := (M7.out.1.own i e).2
              have h6 := (h4.lt i hi).1
              omega))
            obtain ⟨A', n', c', e, hrv', _, _⟩ := hown.form
            cases e
            exact hrv')
          have M10 := Lib.hid ((M8.out.later ((Below.refl _ _).drewN k9)).next p10 n10)
          have HR10 := Lib.hid (And.intro hrv10 (Lib.hid (show n10' = (xs.take n8').length by rw [hn10.out]; simp)))
          obtain ⟨st4, hs4⟩ : ∃ q, ({ st3 with sy := min st3.sy st3.bs.length } : Sp) = q := ⟨_, rfl⟩
          have hok4 : st4.Ok := by rw [← hs4]; exact ⟨Nat.min_le_right _ _, HO.out.2.2.2.2.2.1.len, HO.out.2.2.2.2.2.1.lf, HO.out.2.2.2.2.2.1.kp⟩
          have happ := app_plain st4 [109, 111, 114, 101] (by rw [← hs4]; exact HO.out.2.2.2.1) (by rw [← hs4]; exact HO.out.2.2.2.2.1) (by
            have h1 : st4.bs = wantL (xs.take n8') := by rw [← hs4]; exact HO.out.2.2.1
            have h2 := wantL_take xs n8'
            have h3 := lineF_len [109, 111, 114, 101]
            have h4 := HT.out.2
            rw [h1]
            simp at h3
            omega)
          have hac4 : st4.ac ≤ 1000 := by rw [← hs4]; have := HO.out.2.2.2.2.2.2; show st3.ac ≤ 1000; omega
          have hdl4 : st4.dn = false ∧ st4.lf = 0 := by rw [← hs4]; exact ⟨HO.out.2.2.2.1, HO.out.2.2.2.2.1⟩
          rw [hs4] at M10
          have H4 := Lib.hid (And.intro hok4 (And.intro happ (And.intro hac4 hdl4)))
          clear hs4 hok4 happ hac4 hdl4 p10 n10 ho10 ow10 hrv10 hn10
          go_wp2_with fail
          refine (same_calls A10 A8 n10' c10 n8' c8 (xs.take n8') (xs.take n8') w10 HR10.out.1 HR10.out.2 HQ.out (Lib.hid hkx.symm) (by omega)).mono ?_
          rintro e w11 ⟨rfl, k11, rfl⟩
          rw [show decide (xs.take n8' = xs.take n8') = true from decide_eq_true rfl]
          go_wp2_with fail
          refine (append_calls wa.heap.size g v10 st4 [109, 111, 114, 101] (by decide) H4.out.1 (by have := H4.out.2.2.1; omega) _ (M10.out.1.drewN k11) M10.out.2.2.2).mono ?_
          rintro e w12 ⟨rfl, v12, p12, n12⟩
          have hsn := sync_plain (st4.app [109, 111, 114, 101]).1 (by rw [H4.out.2.1]; exact H4.out.2.2.2.1) (by rw [H4.out.2.1]; exact H4.out.2.2.2.2)
          have hokA := Sp.Ok.app H4.out.1 [109, 111, 114, 101]
          have hacA := st4.app_ac [109, 111, 114, 101]
          have h0 : (st4.app [109, 111, 114, 101]).2 = 0 := by rw [H4.out.2.1]
          rw [h0]
          generalize (st4.app [109, 111, 114, 101]).1 = st5 at *
          have H5 := Lib.hid (And.intro hsn (And.intro hokA (show st5.ac < 1000000 by have := H4.out.2.2.1; omega)))
          have M12 := Lib.hid ((M10.out.later ((Below.refl _ _).drewN k11)).next p12 n12)
          clear p12 n12 hsn hokA hacA h0
          go_wp2_with fail
          refine (sync_calls wa.heap.size g v12 st5 H5.out.2.1 H5.out.2.2 w12 M12.out.1).mono ?_
          rintro e w13 ⟨rfl, v13, p13, n13⟩
          rw [H5.out.1]
          dsimp only
          have M13 := Lib.hid (M12.out.next p13 n13)
          clear p13 n13
          go_wp2_with fail
          go_ret
          exact ⟨rfl, B1.out.then_ (HB.out.then_ M13.out.2.2.1)⟩
end Go.Proofs.Ythhnbpbebplcoaa
