/- JSON: Map of one member at most, walked. -/
import Derived.Test.YtlfmknebkfnliaaJgF
namespace Go.Proofs.Ytlfmknebkfnliaa
open Go.ChangeShapes Go.WideShapes Go.ChangeAt Go.RowKit Go.IntWalk
set_option linter.unusedVariables false
set_option maxRecDepth 100000

def MapQ (P : Nat → Prop) (G : Nat) (W : World) (b : Nat) : Prop := (P b ∨ G < b) ∧ b < W.heap.size
def MapSt (P : Nat → Prop) (t : JT) (w : World) (G : Nat) (wr : World) : Prop := Below w.heap.size w wr ∧ Blk wr w.heap.size 25 [.int .i64 0, .bool false, .int .i64 0, .string ⟨#[]⟩, .slice none 0 0, .slice none 0 0] ∧ ∃ A4 c4, 1 ≤ c4 ∧ Blk wr G 25 [.int .i64 5, .bool false, .int .i64 0, .string ⟨#[]⟩, .slice none 0 0, .slice A4 1 c4] ∧ JSl (MapQ P G wr) wr true A4 t
set_option maxHeartbeats 8000000 in
theorem map_calls (P : Nat → Prop) (A : Option Addr) (n c : Nat) (t : JT) (w : World) (hP : ∀ b, P b → b < w.heap.size) (hn : n = t.ext) (hn1 : n ≤ 1) (hs : JSl P w true A t) : Calls Try.prog 15 #[.slice A n c] w (PutPost P t w) := by
  have b1 : Below w.heap.size w (w.alloc (.cells #[.int .i64 0, .bool false, .int .i64 0, .string ⟨#[]⟩, .slice none 0 0, .slice none 0 0] 25)) := (Below.refl _ _).alloc (Nat.le_refl _) _
  have HB := Lib.hid b1
  have HZ := Lib.hid (Blk.new w [.int .i64 0, .bool false, .int .i64 0, .string ⟨#[]⟩, .slice none 0 0, .slice none 0 0] 25)
  have HCM := Lib.hid (cloneM_calls P A n c t (w.alloc (.cells #[.int .i64 0, .bool false, .int .i64 0, .string ⟨#[]⟩, .slice none 0 0, .slice none 0 0] 25)) (fun b hb => Nat.lt_of_lt_of_le (hP b hb) b1.size) hn (by omega) (hs.stay (fun b o hb => b1.cell (p := ⟨b, o, none⟩) (hP b hb)) (fun _ h => h)))
  have HN := Lib.hid hn
  have HP := Lib.hid hP
  clear b1 hn hs hP
  go_enter Try.func15, Try.ntmps15
  go_wp2_with fail
  refine HCM.out.mono ?_
  rintro e w2 ⟨⟨A3, c3, rfl, hc3, _, ds, hown, hrow⟩, b2⟩
  have HZ2 := Lib.hid (HZ.out.later b2)
  have HB2 := Lib.hid (HB.out.then_ b2)
  have HW2 := Lib.hid (And.intro hown hrow)
  clear hown hrow b2 HCM
  go_wp2_with fail
  refine (srtSmall_calls A3 n c3 _ _ hn1).mono ?_
  rintro e w3 ⟨rfl, rfl⟩
  have hO : Blk (w3.alloc (.cells #[.int .i64 5, .bool false, .int .i64 0, .string ⟨#[]⟩, .slice none 0 0, .slice none 0 0] 25)) w3.heap.size 25 [.int .i64 5, .bool false, .int .i64 0, .string ⟨#[]⟩, .slice none 0 0, .slice none 0 0] := Blk.new w3 [.int .i64 5, .bool false, .int .i64 0, .string ⟨#[]⟩, .slice none 0 0, .slice none 0 0] 25
  have b3 : Below w3.heap.size w3 (w3.alloc (.cells #[.int .i64 5, .bool false, .int .i64 0, .string ⟨#[]⟩, .slice none 0 0, .slice none 0 0] 25)) := (Below.refl _ _).alloc (Nat.le_refl _) _
  have HO := Lib.hid hO
  have HB3 := Lib.hid (HB2.out.then_ b3)
  have HZ3 := Lib.hid (HZ2.out.later b3)
  have HB33 := Lib.hid b3
  have HGZ := Lib.hid HZ2.out.lt
  clear hO b3
  rcases Nat.lt_or_ge 0 n with h0 | h0
  · obtain rfl : n = 1 := by omega
    have h1 : 0 < t.ext := by rw [← HN.out]; exact Nat.zero_lt_one
    obtain ⟨⟨ek0, eKl⟩, eA, enl, ecl, eB, enm, ecm, hce, r1, r2, s1, s2, hf⟩ := (HW2.out.2 0 h1).six
    rcases HW2.out.1.2 with ⟨_, hn0⟩ | ⟨g, cap, cur, hsl, hbg, hh, hnc, hmx, hcs, ht⟩
    · exact absurd hn0 (by decide)
    have hc : ∀ (k : Nat) (u : Value), ds[k]? = some u → (w3.alloc (.cells #[.int .i64 5, .bool false, .int .i64 0, .string ⟨#[]⟩, .slice none 0 0, .slice none 0 0] 25)).cell? ⟨g, k, none⟩ = some u := fun k u hu => by
      refine (HB33.out.cell (p := ⟨g, k, none⟩) (Array.getElem?_eq_some_iff.1 hh).1).trans ?_
      rw [cell_of_row _ _ _ _ _ _ hh]
      rw [← ht] at hu
      simp only [List.getElem?_take] at hu
      split at hu
      · simpa using hu
      · cases hu
    injection hsl with e1 e2 e3
    subst e1
    have eK := hc _ _ ek0; have f0 := hc _ _ (hce 0 _ rfl); have f1 := hc _ _ (hce 1 _ rfl); have f2 := hc _ _ (hce 2 _ rfl); have f3 := hc _ _ (hce 3 _ rfl); have f4 := hc _ _ (hce 4 _ rfl); have f5 := hc _ _ (hce 5 _ rfl)
    obtain ⟨eu, hev⟩ : ∃ eu, (t.fall 0).val = eu := ⟨_, rfl⟩
    obtain ⟨ek, hek⟩ : ∃ ek, (t.fall 0).key = ek := ⟨_, rfl⟩
    rw [hev] at f0 f1 f2 f3 r1 r2 s1 s2 hf
    rw [hek] at eK eKl
    replace eK : (w3.alloc (.cells #[.int .i64 5, .bool false, .int .i64 0, .string ⟨#[]⟩, .slice none 0 0, .slice none 0 0] 25)).cell? ⟨g, 0, none⟩ = some (.string ⟨ek.toArray⟩) := eK
    replace f0 : (w3.alloc (.cells #[.int .i64 5, .bool false, .int .i64 0, .string ⟨#[]⟩, .slice none 0 0, .slice none 0 0] 25)).cell? ⟨g, 1, none⟩ = some (.int .i64 eu.kd) := f0
    replace f1 : (w3.alloc (.cells #[.int .i64 5, .bool false, .int .i64 0, .string ⟨#[]⟩, .slice none 0 0, .slice none 0 0] 25)).cell? ⟨g, 2, none⟩ = some (.bool eu.is) := f1
    replace f2 : (w3.alloc (.cells #[.int .i64 5, .bool false, .int .i64 0, .string ⟨#[]⟩, .slice none 0 0, .slice none 0 0] 25)).cell? ⟨g, 3, none⟩ = some (.int .i64 eu.n) := f2
    replace f3 : (w3.alloc (.cells #[.int .i64 5, .bool false, .int .i64 0, .string ⟨#[]⟩, .slice none 0 0, .slice none 0 0] 25)).cell? ⟨g, 4, none⟩ = some (.string ⟨eu.s.toArray⟩) := f3
    replace f4 : (w3.alloc (.cells #[.int .i64 5, .bool false, .int .i64 0, .string ⟨#[]⟩, .slice none 0 0, .slice none 0 0] 25)).cell? ⟨g, 5, none⟩ = some (.slice eA enl ecl) := f4
    replace f5 : (w3.alloc (.cells #[.int .i64 5, .bool false, .int .i64 0, .string ⟨#[]⟩, .slice none 0 0, .slice none 0 0] 25)).cell? ⟨g, 6, none⟩ = some (.slice eB enm ecm) := f5
    have HE := Lib.hid (show (t.fall 0).key = ek ∧ ek.length ≤ 140737488355328 ∧ JCs P w3 [.int .i64 eu.kd, .bool eu.is, .int .i64 eu.n, .string ⟨eu.s.toArray⟩, .slice eA enl ecl, .slice eB enm ecm] (t.fall 0).val from ⟨hek, eKl, by rw [hev]; exact ⟨eA, enl, ecl, eB, enm, ecm, rfl, r1, r2, s1, s2, hf⟩⟩)
    have b5 : Below (w3.alloc (.cells #[.int .i64 5, .bool false, .int .i64 0, .string ⟨#[]⟩, .slice none 0 0, .slice none 0 0] 25)).heap.size (w3.alloc (.cells #[.int .i64 5, .bool false, .int .i64 0, .string ⟨#[]⟩, .slice none 0 0, .slice none 0 0] 25)) ((w3.alloc (.cells #[.int .i64 5, .bool false, .int .i64 0, .string ⟨#[]⟩, .slice none 0 0, .slice none 0 0] 25)).alloc (.cells #[.string ⟨ek.toArray⟩, .int .i64 eu.kd, .bool eu.is, .int .i64 eu.n, .string ⟨eu.s.toArray⟩, .slice eA enl ecl, .slice eB enm ecm] 36)) := (Below.refl _ _).alloc (Nat.le_refl _) _
    have HB5 := Lib.hid b5
    have hO5 := HO.out.later b5
    have HO5 := Lib.hid hO5
    have hM5 := Blk.new (w3.alloc (.cells #[.int .i64 5, .bool false, .int .i64 0, .string ⟨#[]⟩, .slice none 0 0, .slice none 0 0] 25)) [.string ⟨ek.toArray⟩, .int .i64 eu.kd, .bool eu.is, .int .i64 eu.n, .string ⟨eu.s.toArray⟩, .slice eA enl ecl, .slice eB enm ecm] 36
    clear r1 r2 s1 s2 hf hev hek b5 eKl ek0 hce hc e2 e3 hh ht hcs hmx hnc hbg
    go_wp2_with fail
    go_loopw [14] (fun i wr => (i = .int .i64 0 ∧ wr = w3.alloc (.cells #[.int .i64 5, .bool false, .int .i64 0, .string ⟨#[]⟩, .slice none 0 0, .slice none 0 0] 25)) ∨ (i = .int .i64 1 ∧ Hid (MapSt P t w w3.heap.size wr))) (fun i _ => 1 - (intOf i).toNat)
    case atStart => exact .inl ⟨rfl, rfl⟩
    case round =>
      rcases hrel with ⟨rfl, rfl⟩ | ⟨rfl, hM⟩
      · obtain ⟨o0, o1, o2, o3, o4, o5, p0, p1, p2, p3, p4, p5⟩ := cells6s hO5
        have m0 := hM5.cell (k := 0) rfl; have m1 := hM5.cell (k := 1) rfl; have m2 := hM5.cell (k := 2) rfl; have m3 := hM5.cell (k := 3) rfl; have m4 := hM5.cell (k := 4) rfl; have m5 := hM5.cell (k := 5) rfl; have m6 := hM5.cell (k := 6) rfl
        go_wp2_with fail
        go_quiet (fail)
        have gO : Blk (((w3.alloc (.cells #[.int .i64 5, .bool false, .int .i64 0, .string ⟨#[]⟩, .slice none 0 0, .slice none 0 0] 25)).alloc (.cells #[.string ⟨ek.toArray⟩, .int .i64 eu.kd, .bool eu.is, .int .i64 eu.n, .string ⟨eu.s.toArray⟩, .slice eA enl ecl, .slice eB enm ecm] 36)).drewN nq) w3.heap.size 25 [.int .i64 5, .bool false, .int .i64 0, .string ⟨#[]⟩, .slice none 0 0, .slice none 0 0] := hO5.drewN nq
        have gZ : Blk (((w3.alloc (.cells #[.int .i64 5, .bool false, .int .i64 0, .string ⟨#[]⟩, .slice none 0 0, .slice none 0 0] 25)).alloc (.cells #[.string ⟨ek.toArray⟩, .int .i64 eu.kd, .bool eu.is, .int .i64 eu.n, .string ⟨eu.s.toArray⟩, .slice eA enl ecl, .slice eB enm ecm] 36)).drewN nq) w.heap.size 25 [.int .i64 0, .bool false, .int .i64 0, .string ⟨#[]⟩, .slice none 0 0, .slice none 0 0] := (HZ3.out.later HB5.out).drewN nq
        have gB : Below w.heap.size w (((w3.alloc (.cells #[.int .i64 5, .bool false, .int .i64 0, .string ⟨#[]⟩, .slice none 0 0, .slice none 0 0] 25)).alloc (.cells #[.string ⟨ek.toArray⟩, .int .i64 eu.kd, .bool eu.is, .int .i64 eu.n, .string ⟨eu.s.toArray⟩, .slice eA enl ecl, .slice eB enm ecm] 36)).drewN nq) := (HB3.out.then_ HB5.out).drewN nq
        have gB3 : Below w3.heap.size w3 (((w3.alloc (.cells #[.int .i64 5, .bool false, .int .i64 0, .string ⟨#[]⟩, .slice none 0 0, .slice none 0 0] 25)).alloc (.cells #[.string ⟨ek.toArray⟩, .int .i64 eu.kd, .bool eu.is, .int .i64 eu.n, .string ⟨eu.s.toArray⟩, .slice eA enl ecl, .slice eB enm ecm] 36)).drewN nq) := ((HB33.out.then_ HB5.out)).drewN nq
        have gM : Blk (((w3.alloc (.cells #[.int .i64 5, .bool false, .int .i64 0, .string ⟨#[]⟩, .slice none 0 0, .slice none 0 0] 25)).alloc (.cells #[.string ⟨ek.toArray⟩, .int .i64 eu.kd, .bool eu.is, .int .i64 eu.n, .string ⟨eu.s.toArray⟩, .slice eA enl ecl, .slice eB enm ecm] 36)).drewN nq) (w3.heap.size + 1) 36 [.string ⟨ek.toArray⟩, .int .i64 eu.kd, .bool eu.is, .int .i64 eu.n, .string ⟨eu.s.toArray⟩, .slice eA enl ecl, .slice eB enm ecm] := by have h := hM5.drewN nq; rw [show (w3.alloc (.cells #[.int .i64 5, .bool false, .int .i64 0, .string ⟨#[]⟩, .slice none 0 0, .slice none 0 0] 25)).heap.size = w3.heap.size + 1 by simp] at h; exact h
        generalize (((w3.alloc (.cells #[.int .i64 5, .bool false, .int .i64 0, .string ⟨#[]⟩, .slice none 0 0, .slice none 0 0] 25)).alloc (.cells #[.string ⟨ek.toArray⟩, .int .i64 eu.kd, .bool eu.is, .int .i64 eu.n, .string ⟨eu.s.toArray⟩, .slice eA enl ecl, .slice eB enm ecm] 36)).drewN nq) = w5 at *
        have HO7 := Lib.hid gO; have HZ7 := Lib.hid gZ; have HB7 := Lib.hid gB; have HB37 := Lib.hid gB3
        have hgs : w3.heap.size + 2 ≤ w5.heap.size := gM.lt
        clear hO5 hM5 HO5 HB5 o0 o1 o2 o3 o4 o5 p0 p1 p2 p3 p4 p5 m0 m1 m2 m3 m4 m5 m6 eK f0 f1 f2 f3 f4 f5
        obtain ⟨o0, o1, o2, o3, o4, o5, p0, p1, p2, p3, p4, p5⟩ := cells6s gO
        have m0 := gM.cell (k := 0) rfl; have m1 := gM.cell (k := 1) rfl; have m2 := gM.cell (k := 2) rfl; have m3 := gM.cell (k := 3) rfl; have m4 := gM.cell (k := 4) rfl; have m5 := gM.cell (k := 5) rfl; have m6 := gM.cell (k := 6) rfl
        have HNI := Lib.hid (World.ownsRow_nil w5 (w3.heap.size + 1) 36 7)
        clear gO gZ gB gB3 gM
        go_upto_region 8 with fail
        go_wp2_with (at_builtin; refine wpList_append_c7 rfl _ _ rfl (w3.heap.size + 1) _ 0 [] rfl HNI.out [.string ⟨ek.toArray⟩, .int .i64 eu.kd, .bool eu.is, .int .i64 eu.n, .string ⟨eu.s.toArray⟩, .slice eA enl ecl, .slice eB enm ecm] _ rfl rfl (by intro u hu; simp only [List.mem_cons, List.not_mem_nil, or_false] at hu; rcases hu with rfl | rfl | rfl | rfl | rfl | rfl | rfl <;> rfl) rfl (by decide) (by omega) ?_; intro g4 c4 w6 hown g6; have hb6 : Below (w3.heap.size + 1) w5 w6 := (Below.refl _ _).grown g6 (by omega) (fun k hk => by cases hk); have hO6 := HO7.out.below hb6 (Nat.lt_succ_self _); obtain ⟨q0, q1, q2, q3, q4, q5, r0, r1, r2, r3, r4, r5⟩ := cells6s hO6)
        have hb56 : Below w.heap.size w w6 := HB7.out.trans (hb6.mono (by have := HGZ.out; omega))
        have hE6 : RowE P true w6 [.string ⟨ek.toArray⟩, .int .i64 eu.kd, .bool eu.is, .int .i64 eu.n, .string ⟨eu.s.toArray⟩, .slice eA enl ecl, .slice eB enm ecm] t 0 := by
          obtain ⟨hk, hkl, hjc⟩ := HE.out
          refine ⟨⟨by rw [hk]; rfl, by rw [hk]; exact hkl⟩, [.int .i64 eu.kd, .bool eu.is, .int .i64 eu.n, .string ⟨eu.s.toArray⟩, .slice eA enl ecl, .slice eB enm ecm], fun j v hj => ?_, hjc.stay (fun b o hb => (hb6.cell (p := ⟨b, o, none⟩) (by have := HB2.out.size; have := HP.out b hb; show b < _; omega)).trans (HB37.out.cell (p := ⟨b, o, none⟩) (by have := HB2.out.size; have := HP.out b hb; show b < _; omega))) (fun _ h => h)⟩
          rw [show 0 * stM true + kwM true + j = j + 1 by show 0 * 7 + 1 + j = j + 1; omega]; exact hj
        obtain ⟨A5, c5, he5, hc5, hj⟩ := own_jsl (mem := true) (Q := fun b => (P b ∨ w3.heap.size < b) ∧ b < w6.heap.size) (P := P) (t := t) hown HN.out (fun i hi => by obtain rfl : i = 0 := (by have := HN.out; omega); rw [List.nil_append]; exact hE6) (fun b hb => ⟨.inl hb, by have := hb56.size; have := HP.out b hb; omega⟩) (fun g h1 h2 => ⟨.inr h1, h2⟩)
        injection he5 with e1 e2 e3
        subst e1 e3
        have hst : MapSt P t w w3.heap.size (w6.setCell ⟨w3.heap.size, 5, none⟩ (.slice (some ⟨g4, 0, none⟩) 1 c4)) := ⟨hb56.setCell (by show _ ≤ w3.heap.size; have := HGZ.out; omega) _, blk_far (HZ7.out.below hb6 (by have := HGZ.out; omega)) (by have := HGZ.out; omega) _ _, _, c4, hc5, hO6.set_ 5 _,
          hj.stay (fun b o hb => cell_far (by have h0 := HGZ.out; rcases hb.1 with h1 | h1; { have := HP.out b h1; omega }; { omega })) (fun b hb => ⟨hb.1, by simpa [World.setCell] using hb.2⟩)⟩
        have HST := Lib.hid hst
        clear hst hj hE6 hb56 hb6 hO6 hown g6
        go_roundw
        case rel => exact .inr ⟨rfl, HST⟩
        case measure => simp [intOf]
      · obtain ⟨hb, hz, A4, c4, hc4, hO, hj⟩ := hM.out
        have HQ := Lib.hid (And.intro hb (And.intro hz (And.intro hO (And.intro hc4 hj))))
        obtain ⟨o0, o1, o2, o3, o4, o5, p0, p1, p2, p3, p4, p5⟩ := cells6s hO
        obtain ⟨z0, z1, z2, z3, z4, z5, y0, y1, y2, y3, y4, y5⟩ := cells6s hz
        clear hb hz hc4 hO hj hO5 hM5 eK f0 f1 f2 f3 f4 f5
        go_wp2_with fail
        refine bodyPost_ret (res_cell6 rfl _ ⟨w.heap.size, 0, none⟩ _ _ rfl (Blk.load (blk6o (o := 0) HQ.out.2.1) _ Try.underlying25 rfl size_v6)) rfl ⟨⟨A4, 1, c4, rfl, ⟨rfl, Nat.le_refl _, by decide⟩, ⟨HN.out, HQ.out.2.2.2.1, by decide⟩, .inl rfl, HQ.out.2.2.2.2.stay (fun b o hb => cell6o (by have h0 := HGZ.out; rcases hb.1 with h1 | h1; { have := HP.out b h1; omega }; { omega })) (fun b hb => ?_), fit_map⟩, below6o HQ.out.1 (Nat.le_refl _)⟩
        rcases hb.1 with h1 | h1
        · exact .inl h1
        · refine .inr ⟨by have := HGZ.out; omega, ?_⟩
          show b < (set6o _ _ 0 _ _ _ _ _ _).heap.size
          rw [size6o]; exact hb.2
  · obtain rfl : n = 0 := by omega
    have ht : t = .nil := by
      cases t with
      | nil => rfl
      | cons => have := HN.out; simp [JT.ext] at this
    subst ht
    have hO := HO.out
    obtain ⟨o0, o1, o2, o3, o4, o5, p0, p1, p2, p3, p4, p5⟩ := cells6s hO
    obtain ⟨z0, z1, z2, z3, z4, z5, y0, y1, y2, y3, y4, y5⟩ := cells6s HZ3.out
    clear hO
    go_wp2_with fail
    go_loopw [14] (fun i wr => i = .int .i64 0 ∧ wr = w3.alloc (.cells #[.int .i64 5, .bool false, .int .i64 0, .string ⟨#[]⟩, .slice none 0 0, .slice none 0 0] 25)) (fun _ _ => 0)
    case atStart => exact ⟨rfl, rfl⟩
    case round =>
      obtain ⟨rfl, rfl⟩ := hrel
      go_wp2_with fail
      exact bodyPost_ret (res_cell6 rfl _ ⟨w.heap.size, 0, none⟩ _ _ rfl (Blk.load (blk6o (o := 0) HZ3.out) _ Try.underlying25 rfl size_v6)) rfl ⟨⟨none, 0, 0, rfl, ⟨rfl, Nat.le_refl _, by decide⟩, ⟨rfl, Nat.le_refl _, by decide⟩, .inl rfl, .inl rfl, fit_map⟩, below6o HB3.out (Nat.le_refl _)⟩
end Go.Proofs.Ytlfmknebkfnliaa
