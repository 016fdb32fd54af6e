/- Layer 19: SpoolDoes, walked. -/
import Derived.Test.YthhnbpbebplcoaaSpO
import Derived.Test.YthhnbpbebplcoaaSpL
namespace Go.Proofs.Ythhnbpbebplcoaa
open Go.ChangeShapes Go.WideShapes Go.ChangeAt Go.RowKit Go.IntWalk
set_option linter.unusedVariables false

theorem open_len (s : Sp) (h : s.Ok) : s.open_.2.1.length ≤ 4194304 := by
  have h1 := h.len
  unfold Sp.open_
  split
  · simp
  · cases hr : recsL s.lines with
    | none => simp
    | some rs =>
      have h2 := recsL_len _ _ hr
      have h3 := flatL_ge s.lines
      have h4 := flatL_le s.bs
      unfold Sp.lines at h2 h3
      dsimp only
      omega
theorem spoolDoes_open1 {H : Type} {enc : TypeId × Value → H} {w : World} {base : Nat} {held : Bool} {A : Option Addr} {n c : Nat} {d : DataW H} {p : List MemPlace}
    (h : DataW.Trod enc Try.prog w base (fun _ => true) held 22 (.slice A n c) d p) (hwt : ∀ q ∈ d.weights Try.prog 22, q ≤ reachBytes) : ∃ xs, Own22 w A n c xs := calls_open h hwt
set_option maxRecDepth 100000 in
set_option maxHeartbeats 8000000 in
theorem spoolDoes_walk (a : ByteArray) (ha : a.size ≤ maxLen) (ha47 : a.size ≤ 140737488355328) (A : Option Addr) (n c : Nat) (xs : List Cal) {w : World} (hx : Own22 w A n c xs) :
    Calls Try.prog 3 #[.string a, .slice A n c] w fun e w' => e = .returned (.bool true) ∧ Below w.heap.size w w' := by
  obtain ⟨l, rfl, hla⟩ := str_split a
  rw [hla] at ha47
  clear ha hla
  have HX := Lib.hid hx
  have HNX := Lib.hid hx.2.1.out
  clear hx
  go_enter Try.func3, Try.ntmps3
  go_wp2_with fail
  refine (alive19_calls w).mono ?_
  rintro e w1 ⟨rfl, b1⟩
  have B1 := Lib.hid b1
  have HX1 : Hid (Own22 w1 A n c xs) := Lib.hid ⟨fun k hk => by
    obtain ⟨h1, h2⟩ := CallRows.at_ HX.out b1 hk
    obtain ⟨b, off, e, hr⟩ := h2
    exact ⟨h1, b, off, e, World.block_lt_of_cell? _ _ (hr 0 _ rfl), hr⟩, HX.out.2⟩
  clear b1
  go_wp2_with fail
  refine (great_calls l ha47 A n c xs w1 HX1.out).mono ?_
  rintro e w2 ⟨r, rfl, hr, b2⟩
  have HX2 : Hid (Own22 w2 A n c xs) := Lib.hid ⟨fun k hk => by
    obtain ⟨h1, h2⟩ := CallRows.at_ HX1.out b2 hk
    obtain ⟨b, off, e, hr⟩ := h2
    exact ⟨h1, b, off, e, World.block_lt_of_cell? _ _ (hr 0 _ rfl), hr⟩, HX.out.2⟩
  have B2 := Lib.hid (B1.out.then_ b2)
  clear b2
  cases r with
  | true =>
    clear hr
    go_wp2_with fail
    go_ret
    exact ⟨rfl, B2.out⟩
  | false =>
    obtain ⟨h60, hl16, hs16⟩ := hr rfl
    have HS16 := Lib.hid hs16
    have hn60 : n ≤ 60 := by rw [HNX.out]; exact h60
    clear hr hs16 h60
    go_wp2_with fail
    refine (new_calls l (by omega) w2).mono ?_
    rintro e w3 ⟨g, v, rfl, hg, p3, b3⟩
    have H3 := Lib.hid (And.intro p3 b3)
    clear p3 b3
    go_wp2_with fail
    refine (refNew_calls l (by omega) w3).mono ?_
    rintro e w4 ⟨rfl, r4, b4⟩
    obtain ⟨m, hm⟩ : ∃ m, w3.heap.size = m := ⟨_, rfl⟩
    have hmg : g < w3.heap.size := H3.out.1.lt
    have H4 : Hid (Duo w2.heap.size w2 w4 g v (Sp.new l) m (Sp.new l)) := Lib.hid ⟨⟨H3.out.1.below b4, hg, H3.out.2.then_ b4, Nat.le_trans H3.out.2.size b4.size⟩, by rw [← hm]; exact r4, by rw [← hm]; exact H3.out.2.size, by omega, fun e => by have := (H3.out.1.own _ e).2; omega⟩
    rw [hm]
    clear r4 b4 hm hmg
    go_wp2_with fail
    go_loopw [27] (fun i wr => ∃ (j : Nat) (s : Sp) (v : Value), j ≤ n ∧ i = .int .i64 (j : Int) ∧ s.Ok ∧ s.ac ≤ j ∧ Duo w2.heap.size w2 wr g v s m s) (fun i _ => n - (intOf i).toNat)
    case atStart => exact ⟨0, Sp.new l, v, Nat.zero_le _, rfl, Sp.new_ok l (by omega), Nat.le_refl _, H4.out⟩
    case round =>
      obtain ⟨j, s, v, hj, rfl, hok, hac, hduo⟩ := hrel
      have HS := Lib.hid (And.intro hok (And.intro hac hduo))
      clear hok hac hduo
      by_cases hp : j < n
      · have hjx : j < xs.length := by rw [← HNX.out]; exact hp
        obtain ⟨hko, b, off, rfl, hr⟩ := CallRows.at_ HX2.out HS.out.2.2.1.2.2.1 hjx
        have hcs := HS16.out _ (List.getElem_mem hjx)
        obtain ⟨x, hxj⟩ : ∃ x, xs[j] = x := ⟨_, rfl⟩
        rw [hxj] at hko hr hcs
        obtain ⟨kd, cn, ck, cs⟩ := x
        have HKO := Lib.hid hko
        have c0 := hr 0 _ rfl
        have c1 := hr 1 _ rfl
        have c2 := hr 2 _ rfl
        have c3 := hr 3 _ rfl
        rw [Nat.add_zero] at c0
        unfold strV at c3
        dsimp only at c0 c1 c2 c3 hcs HKO
        clear hr hxj hko
        have HW : Hid (Duo w2.heap.size w2 (wr.alloc (.cells #[.int .i64 kd, .int .i64 cn, .int .i64 ck, .string ⟨cs.toArray⟩] 30)) g v s m s ∧ Blk (wr.alloc (.cells #[.int .i64 kd, .int .i64 cn, .int .i64 ck, .string ⟨cs.toArray⟩] 30)) wr.heap.size 30 [.int .i64 kd, .int .i64 cn, .int .i64 ck, .string ⟨cs.toArray⟩]) := Lib.hid ⟨HS.out.2.2.later ((Below.refl _ _).alloc (Nat.le_refl _) _), Blk.new wr [.int .i64 kd, .int .i64 cn, .int .i64 ck, .string ⟨cs.toArray⟩] _⟩
        have HG : Hid (wr.heap.size ≠ g ∧ v.ownBlock ≠ some wr.heap.size) := Lib.hid ⟨by have := HS.out.2.2.1.1.lt; omega, fun e => by have := (HS.out.2.2.1.1.own _ e).2; omega⟩
        have HG3 : Hid (wr.heap.size ≠ m) := Lib.hid (by have := HS.out.2.2.2.1.lt; omega)
        by_cases k0 : kd = 0
        · subst k0
          obtain ⟨t, ht⟩ : ∃ t, (s.app cs).1 = t := ⟨_, rfl⟩
          obtain ⟨X, hX⟩ : ∃ X : Int, (s.app cs).2 = X := ⟨_, rfl⟩
          have HT : Hid (t.Ok ∧ t.ac ≤ j + 1) := Lib.hid ⟨by rw [← ht]; exact Sp.Ok.app HS.out.1 _, by rw [← ht]; have := s.app_ac cs; have := HS.out.2.1; omega⟩
          have HN := Lib.hid (And.intro ht hX)
          clear ht hX
          go_wp2_with fail
          have HAP : Hid (∀ W, Duo w2.heap.size w2 W g v s m s → Calls Try.prog 12 #[.pointer (some ⟨g, 0, none⟩), .string ⟨cs.toArray⟩] W fun e w' => ∃ v', e = .returned (.int .i64 X) ∧ PSt w2.heap.size w' g v' t ∧ Nx W w' g v v') := Lib.hid (fun W hW => (append_calls w2.heap.size g v s cs (by omega) HS.out.1 (by have := HS.out.2.1; omega) W hW.1.1 hW.1.2.2.2).mono (by
            rintro e w' ⟨he, v', h1, h2⟩
            rw [HN.out.2] at he
            rw [HN.out.1] at h1
            exact ⟨v', he, h1, h2⟩))
          have HRP : Hid (∀ W v', Duo w2.heap.size w2 W g v' t m s → Calls Try.prog 13 #[.pointer (some ⟨m, 0, none⟩), .string ⟨cs.toArray⟩] W fun e w' => e = .returned (.int .i64 X) ∧ RSt w' m t ∧ W.grownBy w' (some m)) := Lib.hid (fun W v' hW => (refAppend_calls m s cs (by omega) HS.out.1 (by have := HS.out.2.1; omega) W hW.2.1).mono (by
            rintro e w' ⟨he, h1, h2⟩
            rw [HN.out.2] at he
            rw [HN.out.1] at h1
            exact ⟨he, h1, h2⟩))
          have e3 : (wr.alloc (.cells #[.int .i64 0, .int .i64 cn, .int .i64 ck, .string ⟨cs.toArray⟩] 30)).cell? ⟨wr.heap.size, 3, none⟩ = some (.string ⟨cs.toArray⟩) := HW.out.2.cell rfl
          go_region_held3 (fun W => W.cell? ⟨wr.heap.size, 3, none⟩ = some (.string ⟨cs.toArray⟩)) (first | assumption)
            ((first
              | (go_at_call 12; (with_reducible refine (HAP.out _ (by first | exact HW.out.1 | exact HW.out.1.drew)).mono ?_); rintro e wa ⟨va, rfl, pa, na⟩; have HDa := Lib.hid ((by first | exact HW.out.1.left pa na | exact HW.out.1.drew.left pa na) : Duo w2.heap.size w2 wa g va t m s); have HBa := Lib.hid (na.blk (by first | exact HW.out.2 | exact HW.out.2.drew) HG.out.1 HG.out.2 : Blk wa wr.heap.size 30 [.int .i64 0, .int .i64 cn, .int .i64 ck, .string ⟨cs.toArray⟩]); have ea := HBa.out.cell (k := 3) rfl; clear pa na)
              | (go_at_call 13; (with_reducible refine (HRP.out _ _ HDa.out).mono ?_); rintro e wb ⟨rfl, rb, gb⟩; have HDb := Lib.hid (HDa.out.right rb gb); have eb := (HBa.out.kept gb HG3.out).cell (k := 3) rfl; clear rb gb)))
          all_goals
            obtain ⟨W5, hW5⟩ : ∃ x, x = wb := ⟨_, rfl⟩
            subst hW5
            have HD := HDb
            have hrt := HD.out.2.1
            unfold RSt RCs at hrt
            obtain ⟨p, hp1⟩ : ∃ p, t.bs.take t.sy = p := ⟨_, rfl⟩
            obtain ⟨q, hq1⟩ : ∃ q, t.bs.drop t.sy = q := ⟨_, rfl⟩
            have hpq : p ++ q = t.bs := by rw [← hp1, ← hq1, List.take_append_drop]
            have hpl : p.length ≤ 4194304 := by have := HT.out.1.len; rw [← hp1]; simp; omega
            have hql : q.length ≤ 4194304 := by have := HT.out.1.len; rw [← hq1]; simp; omega
            rw [hp1, hq1] at hrt
            have h63 : ¬ 9223372036854775807 < p.length + q.length := by omega
            have HPQ := Lib.hid hpq
            clear hp1 hq1 hpq
            have HBY : Hid (∀ k, Calls Try.prog 24 #[.pointer (some ⟨g, 0, none⟩)] (W5.drewN k) fun e w' => e = .returned (.string ⟨(p ++ q).toArray⟩) ∧ W5.drewN k = w') := Lib.hid (fun k => by
              have := bytes_calls w2.heap.size g _ t _ (HD.out.1.1.drewN k)
              rw [← HPQ.out] at this
              exact this)
            have HAC : Hid (∀ k, Calls Try.prog 25 #[.pointer (some ⟨g, 0, none⟩)] (W5.drewN k) fun e w' => e = .returned (.int .i64 (t.ac : Int)) ∧ W5.drewN k = w') := Lib.hid (fun k => acts_calls w2.heap.size g _ t _ (HD.out.1.1.drewN k))
            have HXX : (X != X) = false := by simp
            cases hdn : t.dn
            all_goals
              have HDW : Hid (∀ k, Calls Try.prog 26 #[.pointer (some ⟨g, 0, none⟩)] (W5.drewN k) fun e w' => e = .returned (.bool t.dn) ∧ W5.drewN k = w') := Lib.hid (fun k => down_calls w2.heap.size g _ t _ (HD.out.1.1.drewN k))
              rw [hdn] at HDW hrt
              obtain ⟨r0, r1, r2, r3, r4, r5, _, _, _, _, _, _⟩ := RSt.cells hrt
              clear hrt hdn
              go_wp2_with fail
              go_quiet (first
                | (go_at_call 24; exact Calls.quiet_of_eq (HBY.out _))
                | (go_at_call 25; exact Calls.quiet_of_eq (HAC.out _))
                | (go_at_call 26; exact Calls.quiet_of_eq (HDW.out _)))
              go_wp2_with fail
              exact ⟨⟨j + 1, t, _, by omega, by go_num, HT.out.1, HT.out.2, HD.out.drewN _⟩, by simp [intOf]; omega⟩
        by_cases k1 : kd = 1
        · subst k1
          obtain ⟨t, ht⟩ : ∃ t, s.sync.1 = t := ⟨_, rfl⟩
          obtain ⟨X, hX⟩ : ∃ X : Int, s.sync.2 = X := ⟨_, rfl⟩
          have HT : Hid (t.Ok ∧ t.ac ≤ j + 1) := Lib.hid ⟨by rw [← ht]; exact Sp.Ok.sync HS.out.1, by rw [← ht]; have := s.sync_ac; have := HS.out.2.1; omega⟩
          have HN := Lib.hid (And.intro ht hX)
          clear ht hX
          go_wp2_with fail
          refine (sync_calls w2.heap.size g v s HS.out.1 (by have := HS.out.2.1; omega) _ HW.out.1.1.1).mono ?_
          rintro e wa ⟨rfl, va, pa, na⟩
          rw [HN.out.1] at pa
          rw [HN.out.2]
          have HDa := Lib.hid (HW.out.1.left pa na)
          clear pa na
          go_wp2_with fail
          refine (refSync_calls m s HS.out.1 (by have := HS.out.2.1; omega) _ HDa.out.2.1).mono ?_
          rintro e W5 ⟨rfl, rb, gb⟩
          rw [HN.out.1] at rb
          rw [HN.out.2]
          have HD := Lib.hid (HDa.out.right rb gb)
          clear rb gb
          have hrt := HD.out.2.1
          unfold RSt RCs at hrt
          obtain ⟨p, hp1⟩ : ∃ p, t.bs.take t.sy = p := ⟨_, rfl⟩
          obtain ⟨q, hq1⟩ : ∃ q, t.bs.drop t.sy = q := ⟨_, rfl⟩
          have hpq : p ++ q = t.bs := by rw [← hp1, ← hq1, List.take_append_drop]
          have hpl : p.length ≤ 4194304 := by have := HT.out.1.len; rw [← hp1]; simp; omega
          have hql : q.length ≤ 4194304 := by have := HT.out.1.len; rw [← hq1]; simp; omega
          rw [hp1, hq1] at hrt
          have h63 : ¬ 9223372036854775807 < p.length + q.length := by omega
          have HPQ := Lib.hid hpq
          clear hp1 hq1 hpq
          have HBY : Hid (∀ k, Calls Try.prog 24 #[.pointer (some ⟨g, 0, none⟩)] (W5.drewN k) fun e w' => e = .returned (.string ⟨(p ++ q).toArray⟩) ∧ W5.drewN k = w') := Lib.hid (fun k => by
            have := bytes_calls w2.heap.size g _ t _ (HD.out.1.1.drewN k)
            rw [← HPQ.out] at this
            exact this)
          have HAC : Hid (∀ k, Calls Try.prog 25 #[.pointer (some ⟨g, 0, none⟩)] (W5.drewN k) fun e w' => e = .returned (.int .i64 (t.ac : Int)) ∧ W5.drewN k = w') := Lib.hid (fun k => acts_calls w2.heap.size g _ t _ (HD.out.1.1.drewN k))
          have HXX : (X != X) = false := by simp
          cases hdn : t.dn
          all_goals
            have HDW : Hid (∀ k, Calls Try.prog 26 #[.pointer (some ⟨g, 0, none⟩)] (W5.drewN k) fun e w' => e = .returned (.bool t.dn) ∧ W5.drewN k = w') := Lib.hid (fun k => down_calls w2.heap.size g _ t _ (HD.out.1.1.drewN k))
            rw [hdn] at HDW hrt
            obtain ⟨r0, r1, r2, r3, r4, r5, _, _, _, _, _, _⟩ := RSt.cells hrt
            clear hrt hdn
            go_wp2_with fail
            go_quiet (first
              | (go_at_call 24; exact Calls.quiet_of_eq (HBY.out _))
              | (go_at_call 25; exact Calls.quiet_of_eq (HAC.out _))
              | (go_at_call 26; exact Calls.quiet_of_eq (HDW.out _)))
            go_wp2_with fail
            exact ⟨⟨j + 1, t, _, by omega, by go_num, HT.out.1, HT.out.2, HD.out.drewN _⟩, by simp [intOf]; omega⟩
        by_cases k2 : kd = 2
        · subst k2
          obtain ⟨t, ht⟩ : ∃ t, s.open_.1 = t := ⟨_, rfl⟩
          obtain ⟨X, hX⟩ : ∃ X : Int, s.open_.2.2 = X := ⟨_, rfl⟩
          have HT : Hid (t.Ok ∧ t.ac ≤ j + 1) := Lib.hid ⟨by rw [← ht]; exact Sp.Ok.open_ HS.out.1, by rw [← ht]; have := s.open_ac; have := HS.out.2.1; omega⟩
          have HN := Lib.hid (And.intro ht hX)
          clear ht hX
          obtain ⟨rs, hrs⟩ : ∃ rs, s.open_.2.1 = rs := ⟨_, rfl⟩
          have HRS := Lib.hid hrs
          have hrl : Hid (rs.length ≤ 4194304) := Lib.hid (by rw [← hrs]; exact open_len s HS.out.1)
          clear hrs
          go_wp2_with fail
          refine (open_calls w2.heap.size g v s HS.out.1 _ HW.out.1.1.1 HW.out.1.1.2.2.2).mono ?_
          rintro e wa ⟨va, outa, pa, na, oa, rfl, owa⟩
          rw [HN.out.1] at pa
          rw [HRS.out] at oa
          rw [HN.out.2]
          have HDa := Lib.hid (HW.out.1.left pa na)
          obtain ⟨A1, n1, c1', rfl, _, _, _⟩ := oa.form
          have HOA := Lib.hid oa
          clear pa na owa oa
          go_wp2_with fail
          refine (refOpen_calls m s HS.out.1 _ HDa.out.2.1).mono ?_
          rintro e wb ⟨rb, gb, outb, ob, rfl⟩
          rw [HN.out.1] at rb
          rw [HRS.out] at ob
          rw [HN.out.2]
          have HDb := Lib.hid (HDa.out.right rb gb)
          have oa2 := HOA.out.kept gb (by
            by_cases hno : (Value.slice A1 n1 c1').ownBlock = none
            · exact .inl hno
            · exact .inr (fun e => by have h1 := (HOA.out.lt _ e).1; have h2 := Blk.lt HW.out.1.2.1; omega))
          obtain ⟨_, _, _, e1', hrva, hna, _⟩ := oa2.form
          cases e1'
          obtain ⟨A2, n2, c2', rfl, hrvb, hnb, _⟩ := ob.form
          have HRV := Lib.hid (And.intro hrva (And.intro (Lib.hid (show n1 = rs.length by rw [hna.out]; simp)) (And.intro hrvb (Lib.hid (show n2 = rs.length by rw [hnb.out]; simp)))))
          clear rb gb ob oa2 hrva hna hrvb hnb
          go_wp2_with fail
          have hsm : Calls Try.prog 18 #[.slice A1 n1 c1', .slice A2 n2 c2'] wb fun e w' => e = .returned (.bool true) ∧ Duo w2.heap.size w2 w' g va t m t := (same_calls A1 A2 n1 c1' n2 c2' rs rs _ HRV.out.1 HRV.out.2.1 HRV.out.2.2.1 HRV.out.2.2.2 (by have := hrl.out; omega)).mono (by
            rintro e w9 ⟨rfl, k9, rfl⟩
            exact ⟨by rw [decide_eq_true rfl], HDb.out.drewN k9⟩)
          refine hsm.mono ?_
          rintro e W5 ⟨rfl, hD5⟩
          have HD := Lib.hid hD5
          clear hD5 hsm
          have hrt := HD.out.2.1
          unfold RSt RCs at hrt
          obtain ⟨p, hp1⟩ : ∃ p, t.bs.take t.sy = p := ⟨_, rfl⟩
          obtain ⟨q, hq1⟩ : ∃ q, t.bs.drop t.sy = q := ⟨_, rfl⟩
          have hpq : p ++ q = t.bs := by rw [← hp1, ← hq1, List.take_append_drop]
          have hpl : p.length ≤ 4194304 := by have := HT.out.1.len; rw [← hp1]; simp; omega
          have hql : q.length ≤ 4194304 := by have := HT.out.1.len; rw [← hq1]; simp; omega
          rw [hp1, hq1] at hrt
          have h63 : ¬ 9223372036854775807 < p.length + q.length := by omega
          have HPQ := Lib.hid hpq
          clear hp1 hq1 hpq
          have HBY : Hid (∀ k, Calls Try.prog 24 #[.pointer (some ⟨g, 0, none⟩)] (W5.drewN k) fun e w' => e = .returned (.string ⟨(p ++ q).toArray⟩) ∧ W5.drewN k = w') := Lib.hid (fun k => by
            have := bytes_calls w2.heap.size g _ t _ (HD.out.1.1.drewN k)
            rw [← HPQ.out] at this
            exact this)
          have HAC : Hid (∀ k, Calls Try.prog 25 #[.pointer (some ⟨g, 0, none⟩)] (W5.drewN k) fun e w' => e = .returned (.int .i64 (t.ac : Int)) ∧ W5.drewN k = w') := Lib.hid (fun k => acts_calls w2.heap.size g _ t _ (HD.out.1.1.drewN k))
          have HXX : (X != X) = false := by simp
          cases hdn : t.dn
          all_goals
            have HDW : Hid (∀ k, Calls Try.prog 26 #[.pointer (some ⟨g, 0, none⟩)] (W5.drewN k) fun e w' => e = .returned (.bool t.dn) ∧ W5.drewN k = w') := Lib.hid (fun k => down_calls w2.heap.size g _ t _ (HD.out.1.1.drewN k))
            rw [hdn] at HDW hrt
            obtain ⟨r0, r1, r2, r3, r4, r5, _, _, _, _, _, _⟩ := RSt.cells hrt
            clear hrt hdn
            go_wp2_with fail
            go_quiet (first
              | (go_at_call 24; exact Calls.quiet_of_eq (HBY.out _))
              | (go_at_call 25; exact Calls.quiet_of_eq (HAC.out _))
              | (go_at_call 26; exact Calls.quiet_of_eq (HDW.out _)))
            go_wp2_with fail
            exact ⟨⟨j + 1, t, _, by omega, by go_num, HT.out.1, HT.out.2, HD.out.drewN _⟩, by simp [intOf]; omega⟩
        by_cases k3 : kd = 3
        · subst k3
          obtain ⟨t, ht⟩ : ∃ t, s.off cn = t := ⟨_, rfl⟩
          obtain ⟨X, hX⟩ : ∃ X : Int, X = 0 := ⟨_, rfl⟩
          have HT : Hid (t.Ok ∧ t.ac ≤ j + 1) := Lib.hid ⟨by rw [← ht]; exact Sp.Ok.off HS.out.1 _, by rw [← ht]; have := s.off_ac cn; have := HS.out.2.1; omega⟩
          have HN := Lib.hid (And.intro ht hX)
          clear ht hX
          go_wp2_with fail
          refine (off_calls w2.heap.size g v s cn HKO.out.1 HS.out.1 _ HW.out.1.1.1).mono ?_
          rintro e wa ⟨rfl, va, pa, na⟩
          rw [HN.out.1] at pa
          have HDa := Lib.hid (HW.out.1.left pa na)
          have HBa := Lib.hid (na.blk HW.out.2 HG.out.1 HG.out.2)
          have ea := HBa.out.cell (k := 1) rfl
          clear pa na
          go_wp2_with fail
          refine (refOff_calls m s cn HS.out.1 _ HDa.out.2.1).mono ?_
          rintro e W5 ⟨rfl, rb, gb⟩
          rw [HN.out.1] at rb
          have HD := Lib.hid (HDa.out.right rb gb)
          clear rb gb
          have hrt := HD.out.2.1
          unfold RSt RCs at hrt
          obtain ⟨p, hp1⟩ : ∃ p, t.bs.take t.sy = p := ⟨_, rfl⟩
          obtain ⟨q, hq1⟩ : ∃ q, t.bs.drop t.sy = q := ⟨_, rfl⟩
          have hpq : p ++ q = t.bs := by rw [← hp1, ← hq1, List.take_append_drop]
          have hpl : p.length ≤ 4194304 := by have := HT.out.1.len; rw [← hp1]; simp; omega
          have hql : q.length ≤ 4194304 := by have := HT.out.1.len; rw [← hq1]; simp; omega
          rw [hp1, hq1] at hrt
          have h63 : ¬ 9223372036854775807 < p.length + q.length := by omega
          have HPQ := Lib.hid hpq
          clear hp1 hq1 hpq
          have HBY : Hid (∀ k, Calls Try.prog 24 #[.pointer (some ⟨g, 0, none⟩)] (W5.drewN k) fun e w' => e = .returned (.string ⟨(p ++ q).toArray⟩) ∧ W5.drewN k = w') := Lib.hid (fun k => by
            have := bytes_calls w2.heap.size g _ t _ (HD.out.1.1.drewN k)
            rw [← HPQ.out] at this
            exact this)
          have HAC : Hid (∀ k, Calls Try.prog 25 #[.pointer (some ⟨g, 0, none⟩)] (W5.drewN k) fun e w' => e = .returned (.int .i64 (t.ac : Int)) ∧ W5.drewN k = w') := Lib.hid (fun k => acts_calls w2.heap.size g _ t _ (HD.out.1.1.drewN k))
          cases hdn : t.dn
          all_goals
            have HDW : Hid (∀ k, Calls Try.prog 26 #[.pointer (some ⟨g, 0, none⟩)] (W5.drewN k) fun e w' => e = .returned (.bool t.dn) ∧ W5.drewN k = w') := Lib.hid (fun k => down_calls w2.heap.size g _ t _ (HD.out.1.1.drewN k))
            rw [hdn] at HDW hrt
            obtain ⟨r0, r1, r2, r3, r4, r5, _, _, _, _, _, _⟩ := RSt.cells hrt
            clear hrt hdn
            go_wp2_with fail
            go_quiet (first
              | (go_at_call 24; exact Calls.quiet_of_eq (HBY.out _))
              | (go_at_call 25; exact Calls.quiet_of_eq (HAC.out _))
              | (go_at_call 26; exact Calls.quiet_of_eq (HDW.out _)))
            go_wp2_with fail
            exact ⟨⟨j + 1, t, _, by omega, by go_num, HT.out.1, HT.out.2, HD.out.drewN _⟩, by simp [intOf]; omega⟩
        by_cases k4 : kd = 4
        · subst k4
          obtain ⟨t, ht⟩ : ∃ t, s.on = t := ⟨_, rfl⟩
          obtain ⟨X, hX⟩ : ∃ X : Int, X = 0 := ⟨_, rfl⟩
          have HT : Hid (t.Ok ∧ t.ac ≤ j + 1) := Lib.hid ⟨by rw [← ht]; exact Sp.Ok.on HS.out.1, by rw [← ht]; have := HS.out.2.1; show s.ac ≤ j + 1; omega⟩
          have HN := Lib.hid (And.intro ht hX)
          clear ht hX
          go_wp2_with fail
          refine (on_calls w2.heap.size g v s _ HW.out.1.1.1).mono ?_
          rintro e wa ⟨rfl, pa, na⟩
          rw [HN.out.1] at pa
          have HDa := Lib.hid (HW.out.1.left pa na)
          clear pa na
          have hra := HDa.out.2.1
          have f2 := Blk.frozen hra 2
          obtain ⟨bv, hbv⟩ : ∃ b, wa.cell? ⟨m, 2, none⟩ = some (.bool b) := ⟨_, Blk.cell hra (k := 2) rfl⟩
          have HRA := Lib.hid (show RSt (wa.setCell ⟨m, 2, none⟩ (.bool true)) m t by
            have := hra.set_ 2 (.bool true)
            rw [← HN.out.1]
            exact this)
          obtain ⟨W5, hW5⟩ : ∃ W, wa.setCell ⟨m, 2, none⟩ (.bool true) = W := ⟨_, rfl⟩
          have HD : Hid (Duo w2.heap.size w2 W5 g v t m t) := Lib.hid (by rw [← hW5]; exact HDa.out.right HRA.out (gb_setCell _ _ _ _))
          have HW5 := Lib.hid hW5
          clear hra hW5
          have hrt := HD.out.2.1
          unfold RSt RCs at hrt
          obtain ⟨p, hp1⟩ : ∃ p, t.bs.take t.sy = p := ⟨_, rfl⟩
          obtain ⟨q, hq1⟩ : ∃ q, t.bs.drop t.sy = q := ⟨_, rfl⟩
          have hpq : p ++ q = t.bs := by rw [← hp1, ← hq1, List.take_append_drop]
          have hpl : p.length ≤ 4194304 := by have := HT.out.1.len; rw [← hp1]; simp; omega
          have hql : q.length ≤ 4194304 := by have := HT.out.1.len; rw [← hq1]; simp; omega
          rw [hp1, hq1] at hrt
          have h63 : ¬ 9223372036854775807 < p.length + q.length := by omega
          have HPQ := Lib.hid hpq
          clear hp1 hq1 hpq
          have HBY : Hid (∀ k, Calls Try.prog 24 #[.pointer (some ⟨g, 0, none⟩)] (W5.drewN k) fun e w' => e = .returned (.string ⟨(p ++ q).toArray⟩) ∧ W5.drewN k = w') := Lib.hid (fun k => by
            have := bytes_calls w2.heap.size g _ t _ (HD.out.1.1.drewN k)
            rw [← HPQ.out] at this
            exact this)
          have HAC : Hid (∀ k, Calls Try.prog 25 #[.pointer (some ⟨g, 0, none⟩)] (W5.drewN k) fun e w' => e = .returned (.int .i64 (t.ac : Int)) ∧ W5.drewN k = w') := Lib.hid (fun k => acts_calls w2.heap.size g _ t _ (HD.out.1.1.drewN k))
          cases hdn : t.dn
          all_goals
            have HDW : Hid (∀ k, Calls Try.prog 26 #[.pointer (some ⟨g, 0, none⟩)] (W5.drewN k) fun e w' => e = .returned (.bool t.dn) ∧ W5.drewN k = w') := Lib.hid (fun k => down_calls w2.heap.size g _ t _ (HD.out.1.1.drewN k))
            rw [hdn] at HDW hrt
            obtain ⟨r0, r1, r2, r3, r4, r5, _, _, _, _, _, _⟩ := RSt.cells hrt
            clear hrt hdn
            go_wp2_with fail
            rw [HW5.out]
            go_quiet (first
              | (go_at_call 24; exact Calls.quiet_of_eq (HBY.out _))
              | (go_at_call 25; exact Calls.quiet_of_eq (HAC.out _))
              | (go_at_call 26; exact Calls.quiet_of_eq (HDW.out _)))
            go_wp2_with fail
            exact ⟨⟨j + 1, t, _, by omega, by go_num, HT.out.1, HT.out.2, HD.out.drewN _⟩, by simp [intOf]; omega⟩
        by_cases k5 : kd = 5
        · subst k5
          obtain ⟨t, ht⟩ : ∃ t, s.arm cn ck = t := ⟨_, rfl⟩
          obtain ⟨X, hX⟩ : ∃ X : Int, X = 0 := ⟨_, rfl⟩
          have HT : Hid (t.Ok ∧ t.ac ≤ j + 1) := Lib.hid ⟨by rw [← ht]; exact Sp.Ok.arm HS.out.1 cn ck HKO.out.1.2 HKO.out.2.1, by rw [← ht]; have := HS.out.2.1; show s.ac ≤ j + 1; omega⟩
          have HN := Lib.hid (And.intro ht hX)
          clear ht hX
          go_wp2_with fail
          refine (arm_calls w2.heap.size g v s cn ck _ HW.out.1.1.1).mono ?_
          rintro e wa ⟨rfl, pa, na⟩
          rw [HN.out.1] at pa
          have HDa := Lib.hid (HW.out.1.left pa na)
          have HBa := Lib.hid (na.blk HW.out.2 HG.out.1 HG.out.2)
          have ea := HBa.out.cell (k := 1) rfl
          have eb := HBa.out.cell (k := 2) rfl
          clear pa na
          go_wp2_with fail
          refine (refArm_calls m s cn ck _ HDa.out.2.1).mono ?_
          rintro e W5 ⟨rfl, rb, gb⟩
          rw [HN.out.1] at rb
          have HD := Lib.hid (HDa.out.right rb gb)
          clear rb gb
          have hrt := HD.out.2.1
          unfold RSt RCs at hrt
          obtain ⟨p, hp1⟩ : ∃ p, t.bs.take t.sy = p := ⟨_, rfl⟩
          obtain ⟨q, hq1⟩ : ∃ q, t.bs.drop t.sy = q := ⟨_, rfl⟩
          have hpq : p ++ q = t.bs := by rw [← hp1, ← hq1, List.take_append_drop]
          have hpl : p.length ≤ 4194304 := by have := HT.out.1.len; rw [← hp1]; simp; omega
          have hql : q.length ≤ 4194304 := by have := HT.out.1.len; rw [← hq1]; simp; omega
          rw [hp1, hq1] at hrt
          have h63 : ¬ 9223372036854775807 < p.length + q.length := by omega
          have HPQ := Lib.hid hpq
          clear hp1 hq1 hpq
          have HBY : Hid (∀ k, Calls Try.prog 24 #[.pointer (some ⟨g, 0, none⟩)] (W5.drewN k) fun e w' => e = .returned (.string ⟨(p ++ q).toArray⟩) ∧ W5.drewN k = w') := Lib.hid (fun k => by
            have := bytes_calls w2.heap.size g _ t _ (HD.out.1.1.drewN k)
            rw [← HPQ.out] at this
            exact this)
          have HAC : Hid (∀ k, Calls Try.prog 25 #[.pointer (some ⟨g, 0, none⟩)] (W5.drewN k) fun e w' => e = .returned (.int .i64 (t.ac : Int)) ∧ W5.drewN k = w') := Lib.hid (fun k => acts_calls w2.heap.size g _ t _ (HD.out.1.1.drewN k))
          cases hdn : t.dn
          all_goals
            have HDW : Hid (∀ k, Calls Try.prog 26 #[.pointer (some ⟨g, 0, none⟩)] (W5.drewN k) fun e w' => e = .returned (.bool t.dn) ∧ W5.drewN k = w') := Lib.hid (fun k => down_calls w2.heap.size g _ t _ (HD.out.1.1.drewN k))
            rw [hdn] at HDW hrt
            obtain ⟨r0, r1, r2, r3, r4, r5, _, _, _, _, _, _⟩ := RSt.cells hrt
            clear hrt hdn
            go_wp2_with fail
            go_quiet (first
              | (go_at_call 24; exact Calls.quiet_of_eq (HBY.out _))
              | (go_at_call 25; exact Calls.quiet_of_eq (HAC.out _))
              | (go_at_call 26; exact Calls.quiet_of_eq (HDW.out _)))
            go_wp2_with fail
            exact ⟨⟨j + 1, t, _, by omega, by go_num, HT.out.1, HT.out.2, HD.out.drewN _⟩, by simp [intOf]; omega⟩
        · have t0 : (kd == 0) = false := by simpa using k0
          have t1 : (kd == 1) = false := by simpa using k1
          have t2 : (kd == 2) = false := by simpa using k2
          have t3 : (kd == 3) = false := by simpa using k3
          have t4 : (kd == 4) = false := by simpa using k4
          have t5 : (kd == 5) = false := by simpa using k5
          clear k0 k1 k2 k3 k4 k5
          obtain ⟨t, ht⟩ : ∃ t, s = t := ⟨_, rfl⟩
          obtain ⟨X, hX⟩ : ∃ X : Int, X = 0 := ⟨_, rfl⟩
          have HT : Hid (t.Ok ∧ t.ac ≤ j + 1) := Lib.hid ⟨by rw [← ht]; exact HS.out.1, by rw [← ht]; have := HS.out.2.1; omega⟩
          obtain ⟨W5, hW5⟩ : ∃ W, wr.alloc (.cells #[.int .i64 kd, .int .i64 cn, .int .i64 ck, .string ⟨cs.toArray⟩] 30) = W := ⟨_, rfl⟩
          have HD : Hid (Duo w2.heap.size w2 W5 g v t m t) := Lib.hid (by rw [← hW5, ← ht]; exact HW.out.1)
          have HW5 := Lib.hid hW5
          clear ht hX hW5
          have hrt := HD.out.2.1
          unfold RSt RCs at hrt
          obtain ⟨p, hp1⟩ : ∃ p, t.bs.take t.sy = p := ⟨_, rfl⟩
          obtain ⟨q, hq1⟩ : ∃ q, t.bs.drop t.sy = q := ⟨_, rfl⟩
          have hpq : p ++ q = t.bs := by rw [← hp1, ← hq1, List.take_append_drop]
          have hpl : p.length ≤ 4194304 := by have := HT.out.1.len; rw [← hp1]; simp; omega
          have hql : q.length ≤ 4194304 := by have := HT.out.1.len; rw [← hq1]; simp; omega
          rw [hp1, hq1] at hrt
          have h63 : ¬ 9223372036854775807 < p.length + q.length := by omega
          have HPQ := Lib.hid hpq
          clear hp1 hq1 hpq
          have HBY : Hid (∀ k, Calls Try.prog 24 #[.pointer (some ⟨g, 0, none⟩)] (W5.drewN k) fun e w' => e = .returned (.string ⟨(p ++ q).toArray⟩) ∧ W5.drewN k = w') := Lib.hid (fun k => by
            have := bytes_calls w2.heap.size g _ t _ (HD.out.1.1.drewN k)
            rw [← HPQ.out] at this
            exact this)
          have HAC : Hid (∀ k, Calls Try.prog 25 #[.pointer (some ⟨g, 0, none⟩)] (W5.drewN k) fun e w' => e = .returned (.int .i64 (t.ac : Int)) ∧ W5.drewN k = w') := Lib.hid (fun k => acts_calls w2.heap.size g _ t _ (HD.out.1.1.drewN k))
          cases hdn : t.dn
          all_goals
            have HDW : Hid (∀ k, Calls Try.prog 26 #[.pointer (some ⟨g, 0, none⟩)] (W5.drewN k) fun e w' => e = .returned (.bool t.dn) ∧ W5.drewN k = w') := Lib.hid (fun k => down_calls w2.heap.size g _ t _ (HD.out.1.1.drewN k))
            rw [hdn] at HDW hrt
            obtain ⟨r0, r1, r2, r3, r4, r5, _, _, _, _, _, _⟩ := RSt.cells hrt
            clear hrt hdn
            go_wp2_with fail
            rw [HW5.out]
            go_quiet (first
              | (go_at_call 24; exact Calls.quiet_of_eq (HBY.out _))
              | (go_at_call 25; exact Calls.quiet_of_eq (HAC.out _))
              | (go_at_call 26; exact Calls.quiet_of_eq (HDW.out _)))
            go_wp2_with fail
            exact ⟨⟨j + 1, t, _, by omega, by go_num, HT.out.1, HT.out.2, HD.out.drewN _⟩, by simp [intOf]; omega⟩
      · obtain rfl : j = n := by omega
        obtain ⟨we, hwe⟩ : ∃ x, x = wr := ⟨_, rfl⟩
        subst hwe
        have HB := Lib.hid (B2.out.then_ HS.out.2.2.1.2.2.1)
        clear HS
        go_wp2_with fail
        refine (off_nil 1 we).mono ?_
        rintro e wx ⟨rfl, rfl⟩
        go_wp2_with fail
        refine (on_nil we).mono ?_
        rintro e wx ⟨rfl, rfl⟩
        go_wp2_with fail
        refine (arm_nil 1 1 we).mono ?_
        rintro e wx ⟨rfl, rfl⟩
        go_wp2_with fail
        refine (open_nil we).mono ?_
        rintro e wf ⟨rfl, bf⟩
        have HB2 := Lib.hid (HB.out.then_ bf)
        clear bf
        go_wp2_with fail
        refine (append_nil ⟨#[]⟩ wf).mono ?_
        rintro e wx ⟨rfl, rfl⟩
        go_wp2_with fail
        refine (sync_nil wf).mono ?_
        rintro e wx ⟨rfl, rfl⟩
        go_wp2_with fail
        refine (acts_nil wf).mono ?_
        rintro e wx ⟨rfl, rfl⟩
        go_wp2_with fail
        refine (down_nil wf).mono ?_
        rintro e wx ⟨rfl, rfl⟩
        go_wp2_with fail
        refine (bytes_nil wf).mono ?_
        rintro e wx ⟨rfl, rfl⟩
        go_wp2_with fail
        go_ret
        exact ⟨rfl, HB2.out⟩
end Go.Proofs.Ythhnbpbebplcoaa
