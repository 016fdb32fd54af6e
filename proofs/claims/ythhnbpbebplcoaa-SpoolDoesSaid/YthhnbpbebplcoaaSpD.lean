/- Layer 19: the document's records, and Open, walked. -/
import Derived.Test.YthhnbpbebplcoaaSpC
import Derived.Test.YthhnbpbebplcoaaLetF
import Derived.Deep.RegionHeld3
import Derived.StillTailTactics
namespace Go.Proofs.Ythhnbpbebplcoaa
open Go.ChangeShapes Go.WideShapes Go.ChangeAt Go.RowKit Go.IntWalk
set_option linter.unusedVariables false

theorem infoStr : (Try.prog.info? 9).map (fun i => (i.zero, i.size, i.bytes)) = some (some (.string ByteArray.empty), 1, 16) := by kernel_rfl
theorem oneStr (rs : List (List UInt8)) : ∀ u ∈ rs.map strV, u.oneCell' = true := by
  intro u hu
  obtain ⟨y, _, rfl⟩ := List.mem_map.1 hu
  rfl
/-- What Records answers. -/
def RecPost (l : List UInt8) (w : World) (e : Ending) (w' : World) : Prop :=
  Below w.heap.size w w' ∧ ((recsL (splitF l).1 = none ∧ e = .returned (.tuple #[.slice none 0 0, .int .i64 0, .bool false])) ∨
    ∃ (rs : List (List UInt8)) (v : Value), recsL (splitF l).1 = some rs ∧ OwnVs w.heap.size 9 w' v (rs.map strV) ∧ e = .returned (.tuple #[v, .int .i64 ((flatL (splitF l).1).length : Int), .bool true]))
/-- Where the loop stands. -/
def RecR (l : List UInt8) (w : World) (k F : Nat) (out : Value) (wr : World) : Prop :=
  ∃ (zs : List (List UInt8)) (cur : List UInt8) (rs : List (List UInt8)), l.take k = flatL zs ++ cur ∧ (∀ z ∈ zs, (10 : UInt8) ∉ z) ∧ (10 : UInt8) ∉ cur ∧ recsL zs = some rs ∧ F = (flatL zs).length ∧ OwnVs w.heap.size 9 wr out (rs.map strV) ∧ rs.length ≤ k ∧ Below w.heap.size w wr
theorem RecR.cur {l : List UInt8} {w : World} {k F : Nat} {out : Value} {wr : World} (h : RecR l w k F out wr) : F ≤ k ∨ l.length < k := by
  obtain ⟨zs, cur, rs, h1, h2, h3, h4, h5, _⟩ := h
  have := congrArg List.length h1
  simp at this
  omega
theorem RecR.step {l : List UInt8} {w : World} {k F : Nat} {out : Value} {wr : World} (h : RecR l w k F out wr) (hk : k < l.length) (hc : l[k] ≠ 10) : RecR l w (k + 1) F out wr := by
  obtain ⟨zs, cur, rs, h1, h2, h3, h4, h5, h6, h7, h8⟩ := h
  refine ⟨zs, cur ++ [l[k]], rs, ?_, h2, ?_, h4, h5, h6, by omega, h8⟩
  · rw [take_snocL l k hk, h1, List.append_assoc]
  · intro e
    rcases List.mem_append.1 e with e | e
    · exact h3 e
    · exact hc (List.mem_singleton.1 e).symm
/-- At a line's end. -/
theorem RecR.line {l : List UInt8} {w : World} {k F : Nat} {out : Value} {wr : World} (h : RecR l w k F out wr) (hk : k < l.length) (hc : l[k] = 10) :
    (decF true ((l.take k).drop F) = none → recsL (splitF l).1 = none) ∧
    (∃ rs : List (List UInt8), OwnVs w.heap.size 9 wr out (rs.map strV) ∧ rs.length ≤ k ∧ Below w.heap.size w wr ∧
      ∀ b, decF true ((l.take k).drop F) = some b → ∀ out2 wr2, OwnVs w.heap.size 9 wr2 out2 (rs.map strV ++ [strV b]) → Below w.heap.size w wr2 → RecR l w (k + 1) (k + 1) out2 wr2) := by
  obtain ⟨zs, cur, rs, h1, h2, h3, h4, rfl, h6, h7, h8⟩ := h
  have hcur : (l.take k).drop (flatL zs).length = cur := by rw [h1]; simp
  rw [hcur]
  have hsp : l = flatL zs ++ (cur ++ 10 :: l.drop (k + 1)) := by
    rw [← List.append_assoc, ← h1, ← hc]
    exact (by rw [List.getElem_cons_drop, List.take_append_drop])
  refine ⟨?_, rs, h6, h7, h8, ?_⟩
  · intro hb
    rw [hsp, splitF_app _ _ h2, splitF_line _ _ h3]
    exact recsL_bad _ _ _ hb
  · intro b hb out2 wr2 h9 h10
    refine ⟨zs ++ [cur], [], rs ++ [b], ?_, ?_, by simp, recsL_snoc _ _ _ _ h4 hb, ?_, by simpa using h9, by simp; omega, h10⟩
    · rw [take_snocL l k hk, h1, hc, flatL_snoc]; simp
    · intro z hz
      rcases List.mem_append.1 hz with hz | hz
      · exact h2 z hz
      · rw [List.mem_singleton.1 hz]; exact h3
    · have := congrArg List.length h1
      rw [flatL_snoc]
      simp at this ⊢
      omega
theorem RecR.last {l : List UInt8} {w : World} {k F : Nat} {out : Value} {wr : World} (h : RecR l w k F out wr) (hk : k = l.length) :
    ∃ rs : List (List UInt8), recsL (splitF l).1 = some rs ∧ OwnVs w.heap.size 9 wr out (rs.map strV) ∧ F = (flatL (splitF l).1).length ∧ Below w.heap.size w wr := by
  obtain ⟨zs, cur, rs, h1, h2, h3, h4, h5, h6, h7, h8⟩ := h
  subst hk
  rw [List.take_length] at h1
  rw [h1, splitF_uniq zs cur h2 h3]
  exact ⟨rs, h4, h6, h5, h8⟩
set_option maxHeartbeats 4000000 in
theorem records_calls (l : List UInt8) (hl : l.length ≤ 8388608) (w : World) :
    Calls Try.prog 27 #[.string ⟨l.toArray⟩] w (RecPost l w) := by
  go_enter Try.func27, Try.ntmps27
  go_wp2_with fail
  go_loopw [5, 6, 7] (fun out fr i wr => ∃ k F : Nat, k ≤ l.length ∧ i = .int .i64 (k : Int) ∧ fr = .int .i64 (F : Int) ∧ RecR l w k F out wr) (fun _ _ i _ => l.length - (intOf i).toNat)
  case atStart => exact ⟨0, 0, by omega, rfl, rfl, [], [], [], rfl, by simp, by simp, rfl, rfl, OwnVs.nil _ _ _, by simp, Below.refl _ _⟩
  case round =>
    obtain ⟨k, F, hk, rfl, rfl, hR⟩ := hrel
    have hFk : F ≤ k := by rcases hR.cur with h | h <;> omega
    have HR := Lib.hid hR
    clear hR
    by_cases hp : k < l.length
    · by_cases hc : l[k] = 10
      · obtain ⟨hno, rs, ho, hrl, hb, hyes⟩ := HR.out.line hp hc
        have ht : (((l[k]'hp).toNat : Int) != 10) = false := by rw [hc]; rfl
        have HY := Lib.hid (And.intro hno hyes)
        obtain ⟨q, hq⟩ : ∃ q, (l.take k).drop F = q := ⟨_, rfl⟩
        have hql : q.length ≤ 8388608 := by rw [← hq]; simp; omega
        have HO := Lib.hid (And.intro ho (And.intro hrl hb))
        rw [hq] at HY
        clear hno hyes hc ho hrl hb
        go_wp2_with fail
        refine (refdec_list q true _ (by omega)).mono ?_
        intro e w2 hD
        obtain ⟨A, n, c, rfl, hrb, hn, b2, _⟩ := hD.open_
        clear hD
        cases hd : decF true q with
        | none =>
          have hs : (none : Option (List UInt8)).isSome = false := rfl
          have HN := Lib.hid (HY.out.1 hd)
          have HB2 := Lib.hid (HO.out.2.2.then_ b2)
          clear hrb hn b2
          go_wp2_with fail
          exact bodyPost_ret (v := .tuple #[.slice none 0 0, .int .i64 0, .bool false]) (by simp [results, Try.results27, go_sem]) rfl ⟨HB2.out, .inl ⟨HN.out, rfl⟩⟩
        | some b =>
          rw [hd] at hrb hn
          have hs : (some b).isSome = true := rfl
          have hcv := run_str_rb w2 A n c b hrb hn
          have HYB := Lib.hid (HY.out.2 b hd)
          have ho2 := (HO.out.1.below b2 (Nat.le_refl _))
          have HB2 := Lib.hid (HO.out.2.2.then_ b2)
          have hn3 : Hid (1 = [strV b].length) := Lib.hid rfl
          have hlm : (rs.map strV).length + 1 ≤ maxLen := by have := HO.out.2.1; simp; unfold maxLen; omega
          have hlb : ((rs.map strV).length + 1) * 16 ≤ 140737488355328 := by have := HO.out.2.1; simp; omega
          have hbs := HB2.out.size
          have HONE := Lib.hid (show ∀ u ∈ [strV b], u.oneCell' = true from oneStr [b])
          clear hrb hn b2
          go_wp2_with (first
            | (refine wpList_append_lits rfl (.tmp 30) (.tmp 33) 34 9 Try.underlying34 infoStr rfl rfl w.heap.size _ _ rfl ho2 [strV b] _ _ rfl 1 rfl hn3 HONE.out hlm hlb hbs ?_; intro v3 w3 ho3 g3))
          exact ⟨⟨k + 1, k + 1, by omega, by go_num, by go_num, HYB.out v3 w3 ho3 (HB2.out.grown g3 hbs (fun j hj => (ho2.lt j hj).1))⟩, by simp [intOf]; omega⟩
      · have ht : (((l[k]'hp).toNat : Int) != 10) = true := by
          rw [bne_iff_ne]; intro e; exact hc (UInt8.toNat_inj.1 (show (l[k]'hp).toNat = 10 by omega))
        have HC := Lib.hid hc
        clear hc
        go_wp2_with fail
        exact ⟨⟨k + 1, F, by omega, by go_num, rfl, HR.out.step hp HC.out⟩, by simp [intOf]; omega⟩
    · go_wp2_with fail
      obtain ⟨rs, h1, h2, h3, h4⟩ := HR.out.last (by omega)
      subst h3
      exact bodyPost_ret (v := .tuple #[u5, .int .i64 ((flatL (splitF l).1).length : Int), .bool true]) (by simp [results, Try.results27, go_sem]) rfl ⟨h4, .inr ⟨rs, _, h1, h2, rfl⟩⟩
/-- What Open answers: the document's. -/
def ROpenPost (m : Nat) (s : Sp) (w : World) (e : Ending) (w' : World) : Prop :=
  RSt w' m s.open_.1 ∧ w.grownBy w' (some m) ∧ ∃ v, OwnVs w.heap.size 9 w' v (s.open_.2.1.map strV) ∧ e = .returned (.tuple #[v, .int .i64 s.open_.2.2])
set_option maxHeartbeats 4000000 in
theorem refOpen_calls (m : Nat) (s : Sp) (hs : s.Ok) (w : World) (h : RSt w m s) :
    Calls Try.prog 17 #[.pointer (some ⟨m, 0, none⟩)] w (ROpenPost m s w) := by
  by_cases hd : s.dn = true
  · have HS := Lib.hid (show s.open_ = (s, [], 50) by unfold Sp.open_; rw [if_pos hd])
    have HB := Lib.hid h
    unfold RSt RCs at h
    rw [hd] at h
    obtain ⟨c0, c1, c2, c3, c4, c5, f0, f1, f2, f3, f4, f5⟩ := RSt.cells h
    clear h hd hs
    go_enter Try.func17, Try.ntmps17
    go_wp2_with fail
    go_ret2
    unfold ROpenPost
    rw [HS.out]
    exact ⟨HB.out, World.grownBy.refl _ _, _, OwnVs.nil _ _ _, rfl⟩
  · replace hd : s.dn = false := by simpa using hd
    have HS := Lib.hid (show s.open_ = (match recsL s.lines with
      | none => (s, [], 4)
      | some rs => ({ s with bs := flatL s.lines, sy := min s.sy (flatL s.lines).length }, rs, 0)) by unfold Sp.open_; rw [if_neg (by simp [hd])]; rfl)
    have HB := Lib.hid h
    have HD := Lib.hid hd
    have HOK := Lib.hid hs
    unfold RSt RCs at h
    rw [hd] at h
    obtain ⟨x, hx⟩ : ∃ x, s.bs.take s.sy = x := ⟨_, rfl⟩
    obtain ⟨y, hy⟩ : ∃ y, s.bs.drop s.sy = y := ⟨_, rfl⟩
    have hxl : x.length ≤ 4194304 := by have := hs.len; rw [← hx]; simp; omega
    have hyl : y.length ≤ 4194304 := by have := hs.len; rw [← hy]; simp; omega
    rw [hx, hy] at h
    have hxy : x ++ y = s.bs := by rw [← hx, ← hy, List.take_append_drop]
    have hsx : x.length = s.sy := by have := hs.sy; rw [← hx]; simp; omega
    have hbl : (x ++ y).length ≤ 8388608 := by simp; omega
    have HX := Lib.hid (And.intro hxy hsx)
    have HH := Lib.hid h
    obtain ⟨c0, c1, c2, c3, c4, c5, f0, f1, f2, f3, f4, f5⟩ := RSt.cells h
    clear h hd hs hx hy hxy hsx
    go_enter Try.func17, Try.ntmps17
    go_wp2_with fail
    have hall : ∀ W, Below w.heap.size w W → (Below w.heap.size w W ∧ W.cell? ⟨m, 0, none⟩ = some (.string ⟨x.toArray⟩) ∧ W.cell? ⟨m, 1, none⟩ = some (.string ⟨y.toArray⟩)) :=
      fun W hW => ⟨hW, (Blk.later HH.out hW).cell rfl, (Blk.later HH.out hW).cell rfl⟩
    have HALL := Lib.hid hall
    have h63 : ¬ 9223372036854775807 < x.length + y.length := by omega
    have hsp : splitF (x ++ y) = splitF s.bs := by rw [HX.out.1]
    have HRC := records_calls (x ++ y) hbl
    unfold RecPost at HRC
    rw [hsp] at HRC
    cases hrc : recsL (splitF s.bs).1 with
    | none =>
      have HC : Hid (∀ W, Calls Try.prog 27 #[.string ⟨(x ++ y).toArray⟩] W fun e w' => e = .returned (.tuple #[.slice none 0 0, .int .i64 0, .bool false]) ∧ Below W.heap.size W w') := Lib.hid (fun W => (HRC W).mono (by
        rintro e w' ⟨hb, (⟨_, h⟩ | ⟨rs, v, h, _⟩)⟩
        · exact ⟨h, hb⟩
        · rw [hrc] at h; cases h))
      have HE := Lib.hid (show s.open_ = (s, [], 4) by rw [HS.out]; unfold Sp.lines; rw [hrc])
      clear HRC hrc hsp hall
      go_region_held3 (fun W => Below w.heap.size w W ∧ W.cell? ⟨m, 0, none⟩ = some (.string ⟨x.toArray⟩) ∧ W.cell? ⟨m, 1, none⟩ = some (.string ⟨y.toArray⟩))
        (first | assumption | exact HALL.out _ (Below.refl _ _) | exact HALL.out _ ((Below.refl _ _).drewN _) | (go_split_ands; refine HALL.out _ ?_; repeat (first | assumption | exact Below.refl _ _ | exact (Below.refl _ _).drewN _ | refine Below.then_ ?_ (by assumption))))
        ((first
          | (go_at_call 27; (with_reducible refine (HC.out _).mono ?_); rintro e wv ⟨rfl, bv⟩; have hq1 : Below w.heap.size w wv := (by refine Below.then_ ?_ bv; first | exact Below.refl _ _ | exact (Below.refl _ _).drewN _); have hcb := bcellB bv)))
      all_goals
        rename_i hS
        have HS1 := Lib.hid hS.1
        clear hS
        go_wp2_with fail
        go_ret2
        unfold ROpenPost
        rw [HE.out]
        exact ⟨Blk.later HB.out HS1.out, gb_below HS1.out, _, OwnVs.nil _ _ _, rfl⟩
    | some rs =>
      obtain ⟨F, hF⟩ : ∃ F, (flatL (splitF s.bs).1).length = F := ⟨_, rfl⟩
      rw [hF] at HRC
      have HC : Hid (∀ W, Calls Try.prog 27 #[.string ⟨(x ++ y).toArray⟩] W fun e w' => ∃ v, e = .returned (.tuple #[v, .int .i64 (F : Int), .bool true]) ∧ OwnVs W.heap.size 9 w' v (rs.map strV) ∧ Below W.heap.size W w') := Lib.hid (fun W => (HRC W).mono (by
        rintro e w' ⟨hb, (⟨h, _⟩ | ⟨rs2, v, h, ho, he⟩)⟩
        · rw [hrc] at h; cases h
        · rw [hrc] at h; cases h; exact ⟨v, he, ho, hb⟩))
      have hFl : F ≤ (x ++ y).length := by rw [← hF, HX.out.1]; exact flatL_le _
      have hft : flatL (splitF s.bs).1 = (x ++ y).take F := by rw [flatL_take, hF, HX.out.1]
      have HE := Lib.hid (show s.open_ = ({ s with bs := (x ++ y).take F, sy := min s.sy F }, rs, 0) by rw [HS.out]; unfold Sp.lines; rw [hrc, hF, hft])
      have hFb : F ≤ 8388608 := by omega
      have HFL := Lib.hid hFl
      clear HRC hrc hsp hall hF hft hFl
      go_region_held3 (fun W => Below w.heap.size w W ∧ W.cell? ⟨m, 0, none⟩ = some (.string ⟨x.toArray⟩) ∧ W.cell? ⟨m, 1, none⟩ = some (.string ⟨y.toArray⟩))
        (first | assumption | exact HALL.out _ (Below.refl _ _) | exact HALL.out _ ((Below.refl _ _).drewN _) | (go_split_ands; refine HALL.out _ ?_; repeat (first | assumption | exact Below.refl _ _ | exact (Below.refl _ _).drewN _ | refine Below.then_ ?_ (by assumption))))
        ((first
          | (go_at_call 27; (with_reducible refine (HC.out _).mono ?_); rintro e wv ⟨v, rfl, hov, bv⟩; have hq1 : Below w.heap.size w wv := (by refine Below.then_ ?_ bv; first | exact Below.refl _ _ | exact (Below.refl _ _).drewN _); have hcb := bcellB bv)))
      all_goals
        rename_i hS
        have HS1 := Lib.hid hS.1
        have HV := Lib.hid hov
        clear hS hov
        have HH1 := Lib.hid (Blk.later HH.out HS1.out)
        obtain ⟨c0, c1, c2, c3, c4, c5, f0, f1, f2, f3, f4, f5⟩ := RSt.cells HH1.out
        have HM : Hid (v.ownBlock = none ∨ v.ownBlock ≠ some m) := Lib.hid (.inr (fun e => by
          have h1 := (HV.out.lt m e).1
          have h2 := HH.out.lt
          simp at h1
          omega))
        by_cases hlt : F < x.length
        · have HN := Lib.hid (show RCs { s with bs := (x ++ y).take F, sy := min s.sy F } = [strV (x.take F), strV [], .bool true, .int .i64 (s.ac : Int), .int .i64 (s.lf : Int), .int .i64 s.kp] by
            have h := HX.out.2
            unfold RCs
            dsimp only
            rw [Nat.min_eq_right (by omega), List.take_take, Nat.min_self, List.drop_take, Nat.sub_self, List.take_zero, List.take_append_of_le_length (by omega), HD.out]; rfl)
          go_wp2_with fail
          go_ret2
          unfold ROpenPost
          rw [HE.out]
          have hg := ((gb_setCell wv m 0 (strV (x.take F))).trans (gb_setCell _ m 1 (strV [])))
          refine ⟨?_, (gb_below HS1.out).trans hg, v, HV.out.kept hg HM.out, rfl⟩
          unfold RSt
          rw [HN.out]
          exact (HH1.out.set_ 0 (strV (x.take F))).set_ 1 (strV [])
        · obtain ⟨d, hd⟩ : ∃ d, F = x.length + d := ⟨F - x.length, by omega⟩
          have hdw : IntKind.i64.wrap ((F : Int) - (x.length : Int)) = (d : Int) := (IntWalk.i64_in _ (by omega)).trans (by omega)
          have hdy : d ≤ y.length := by have := HFL.out; simp at this; omega
          have HN := Lib.hid (show RCs { s with bs := (x ++ y).take F, sy := min s.sy F } = [strV x, strV (y.take d), .bool true, .int .i64 (s.ac : Int), .int .i64 (s.lf : Int), .int .i64 s.kp] by
            have h := HX.out.2
            unfold RCs
            dsimp only
            rw [Nat.min_eq_left (by omega), ← h, hd, List.take_length_add_append, List.take_left' rfl, List.drop_left' rfl, HD.out]; rfl)
          have HD2 := Lib.hid hd
          clear hd
          go_wp2_with fail
          go_region
          go_wp2_with fail
          go_ret2
          unfold ROpenPost
          rw [HE.out]
          have hg := (gb_setCell wv m 1 (strV (y.take d))).trans (gb_drew _ (some m))
          refine ⟨?_, (gb_below HS1.out).trans hg, v, HV.out.kept hg HM.out, rfl⟩
          unfold RSt
          rw [HN.out]
          exact (HH1.out.set_ 1 (strV (y.take d))).drew
end Go.Proofs.Ythhnbpbebplcoaa
