/- Texts put together: JgF JgG JrA JwW JrB. -/
import Derived.Test.YtkbcbikilgcckaaGreatDoorZb7a362efa3
import Derived.Test.YtkbcbikilgcckaaGreatDoorZ3b60d505ed
namespace Go.Proofs.YtkbcbikilgcckaaGreatDoor
open Go.ChangeShapes Go.WideShapes Go.ChangeAt Go.RowKit Go.IntWalk
set_option linter.unusedVariables false
set_option maxRecDepth 100000

theorem insSmall_calls (A : Option Addr) (n c : Nat) (F : Value) (w : World) (hn : n ≤ 1) : Calls Tryz.prog 119 #[.slice A n c, .int .i64 0, .int .i64 (n : Int), F] w fun e w' => e = .returned (.tuple #[]) ∧ w' = w := by
  have ht : decide ((1 : Int) < (n : Int)) = false := by simp; omega
  go_enter Tryz.func119, Tryz.ntmps119
  go_wp2_with fail
  go_loopw [8] (fun i wr => i = .int .i64 1 ∧ wr = w) (fun _ _ => 0)
  case atStart => exact ⟨rfl, rfl⟩
  case round =>
    obtain ⟨rfl, rfl⟩ := hrel
    go_wp2_with fail
    go_end0
    exact ⟨rfl, rfl⟩
theorem stbSmall_calls (A : Option Addr) (n c : Nat) (F : Value) (w : World) (hn : n ≤ 1) : Calls Tryz.prog 86 #[.slice A n c, .int .i64 (n : Int), F] w fun e w' => e = .returned (.tuple #[]) ∧ w' = w := by
  have ht : decide ((20 : Int) ≤ (n : Int)) = false := by simp; omega
  have ht2 : decide ((20 : Int) < (n : Int)) = false := by simp; omega
  go_enter Tryz.func86, Tryz.ntmps86
  go_wp2_with fail
  go_loopw [7, 8] (fun i j wr => i = .int .i64 0 ∧ j = .int .i64 20 ∧ wr = w) (fun _ _ _ => 0)
  case atStart => exact ⟨rfl, rfl, rfl⟩
  case round =>
    obtain ⟨rfl, rfl, rfl⟩ := hrel
    go_wp2_with fail
    refine (insSmall_calls A n c F _ hn).mono ?_
    rintro e w2 ⟨rfl, rfl⟩
    obtain ⟨w5, hw5⟩ : ∃ x, x = w2 := ⟨_, rfl⟩
    subst hw5
    go_wp2_with fail
    go_loopw [6] (fun i wz => i = .int .i64 20 ∧ wz = w5) (fun _ _ => 0)
    case atStart => exact ⟨rfl, rfl⟩
    case round =>
      obtain ⟨rfl, rfl⟩ := hrel
      go_wp2_with fail
      go_end0
      exact ⟨rfl, rfl⟩
theorem srtSmall_calls (A : Option Addr) (n c : Nat) (F : Value) (w : World) (hn : n ≤ 1) : Calls Tryz.prog 55 #[.slice A n c, F] w fun e w' => e = .returned (.tuple #[]) ∧ w' = w := by
  go_enter Tryz.func55, Tryz.ntmps55
  go_wp2_with fail
  refine (stbSmall_calls A n c F _ hn).mono ?_
  rintro e w2 ⟨rfl, rfl⟩
  go_wp2_with fail
  go_end0
  exact ⟨rfl, rfl⟩
end Go.Proofs.YtkbcbikilgcckaaGreatDoor
namespace Go.Proofs.YtkbcbikilgcckaaGreatDoor
open Go.ChangeShapes Go.WideShapes Go.ChangeAt Go.RowKit Go.IntWalk
set_option linter.unusedVariables false
set_option maxRecDepth 100000

def MapQ (P : Nat → Prop) (G : Nat) (W : World) (b : Nat) : Prop := (P b ∨ G < b) ∧ b < W.heap.size
def MapSt (P : Nat → Prop) (t : JT) (w : World) (G : Nat) (wr : World) : Prop := Below w.heap.size w wr ∧ Blk wr w.heap.size 25 [.int .i64 0, .bool false, .int .i64 0, .string ⟨#[]⟩, .slice none 0 0, .slice none 0 0] ∧ ∃ A4 c4, 1 ≤ c4 ∧ Blk wr G 25 [.int .i64 5, .bool false, .int .i64 0, .string ⟨#[]⟩, .slice none 0 0, .slice A4 1 c4] ∧ JSl (MapQ P G wr) wr true A4 t
set_option maxHeartbeats 8000000 in
theorem map_calls (P : Nat → Prop) (A : Option Addr) (n c : Nat) (t : JT) (w : World) (hP : ∀ b, P b → b < w.heap.size) (hn : n = t.ext) (hn1 : n ≤ 1) (hs : JSl P w true A t) : Calls Tryz.prog 30 #[.slice A n c] w (PutPostM P t w) := by
  have b1 : Below w.heap.size w (w.alloc (.cells #[.int .i64 0, .bool false, .int .i64 0, .string ⟨#[]⟩, .slice none 0 0, .slice none 0 0] 25)) := (Below.refl _ _).alloc (Nat.le_refl _) _
  have HB := Lib.hid b1
  have HZ := Lib.hid (Blk.new w [.int .i64 0, .bool false, .int .i64 0, .string ⟨#[]⟩, .slice none 0 0, .slice none 0 0] 25)
  have HCM := Lib.hid (cloneM_calls P A n c t (w.alloc (.cells #[.int .i64 0, .bool false, .int .i64 0, .string ⟨#[]⟩, .slice none 0 0, .slice none 0 0] 25)) (fun b hb => Nat.lt_of_lt_of_le (hP b hb) b1.size) hn (by omega) (hs.stay (fun b o hb => b1.cell (p := ⟨b, o, none⟩) (hP b hb)) (fun _ h => h)))
  have HN := Lib.hid hn
  have HP := Lib.hid hP
  clear b1 hn hs hP
  go_enter Tryz.func30, Tryz.ntmps30
  go_wp2_with fail
  refine HCM.out.mono ?_
  rintro e w2 ⟨⟨A3, c3, rfl, hc3, _, ds, hown, hrow⟩, b2⟩
  have HZ2 := Lib.hid (HZ.out.later b2)
  have HB2 := Lib.hid (HB.out.then_ b2)
  have HW2 := Lib.hid (And.intro hown hrow)
  clear hown hrow b2 HCM
  go_wp2_with fail
  refine (srtSmall_calls A3 n c3 _ _ hn1).mono ?_
  rintro e w3 ⟨rfl, rfl⟩
  have hO : Blk (w3.alloc (.cells #[.int .i64 5, .bool false, .int .i64 0, .string ⟨#[]⟩, .slice none 0 0, .slice none 0 0] 25)) w3.heap.size 25 [.int .i64 5, .bool false, .int .i64 0, .string ⟨#[]⟩, .slice none 0 0, .slice none 0 0] := Blk.new w3 [.int .i64 5, .bool false, .int .i64 0, .string ⟨#[]⟩, .slice none 0 0, .slice none 0 0] 25
  have b3 : Below w3.heap.size w3 (w3.alloc (.cells #[.int .i64 5, .bool false, .int .i64 0, .string ⟨#[]⟩, .slice none 0 0, .slice none 0 0] 25)) := (Below.refl _ _).alloc (Nat.le_refl _) _
  have HO := Lib.hid hO
  have HB3 := Lib.hid (HB2.out.then_ b3)
  have HZ3 := Lib.hid (HZ2.out.later b3)
  have HB33 := Lib.hid b3
  have HGZ := Lib.hid HZ2.out.lt
  clear hO b3
  rcases Nat.lt_or_ge 0 n with h0 | h0
  · obtain rfl : n = 1 := by omega
    have h1 : 0 < t.ext := by rw [← HN.out]; exact Nat.zero_lt_one
    obtain ⟨⟨ek0, eKl⟩, eA, enl, ecl, eB, enm, ecm, hce, r1, r2, s1, s2, hf⟩ := (HW2.out.2 0 h1).six
    rcases HW2.out.1.2 with ⟨_, hn0⟩ | ⟨g, cap, cur, hsl, hbg, hh, hnc, hmx, hcs, ht⟩
    · exact absurd hn0 (by decide)
    have hc : ∀ (k : Nat) (u : Value), ds[k]? = some u → (w3.alloc (.cells #[.int .i64 5, .bool false, .int .i64 0, .string ⟨#[]⟩, .slice none 0 0, .slice none 0 0] 25)).cell? ⟨g, k, none⟩ = some u := fun k u hu => by
      refine (HB33.out.cell (p := ⟨g, k, none⟩) (Array.getElem?_eq_some_iff.1 hh).1).trans ?_
      rw [cell_of_row _ _ _ _ _ _ hh]
      rw [← ht] at hu
      simp only [List.getElem?_take] at hu
      split at hu
      · simpa using hu
      · cases hu
    injection hsl with e1 e2 e3
    subst e1
    have eK := hc _ _ ek0; have f0 := hc _ _ (hce 0 _ rfl); have f1 := hc _ _ (hce 1 _ rfl); have f2 := hc _ _ (hce 2 _ rfl); have f3 := hc _ _ (hce 3 _ rfl); have f4 := hc _ _ (hce 4 _ rfl); have f5 := hc _ _ (hce 5 _ rfl)
    obtain ⟨eu, hev⟩ : ∃ eu, (t.fall 0).val = eu := ⟨_, rfl⟩
    obtain ⟨ek, hek⟩ : ∃ ek, (t.fall 0).key = ek := ⟨_, rfl⟩
    rw [hev] at f0 f1 f2 f3 r1 r2 s1 s2 hf
    rw [hek] at eK eKl
    replace eK : (w3.alloc (.cells #[.int .i64 5, .bool false, .int .i64 0, .string ⟨#[]⟩, .slice none 0 0, .slice none 0 0] 25)).cell? ⟨g, 0, none⟩ = some (.string ⟨ek.toArray⟩) := eK
    replace f0 : (w3.alloc (.cells #[.int .i64 5, .bool false, .int .i64 0, .string ⟨#[]⟩, .slice none 0 0, .slice none 0 0] 25)).cell? ⟨g, 1, none⟩ = some (.int .i64 eu.kd) := f0
    replace f1 : (w3.alloc (.cells #[.int .i64 5, .bool false, .int .i64 0, .string ⟨#[]⟩, .slice none 0 0, .slice none 0 0] 25)).cell? ⟨g, 2, none⟩ = some (.bool eu.is) := f1
    replace f2 : (w3.alloc (.cells #[.int .i64 5, .bool false, .int .i64 0, .string ⟨#[]⟩, .slice none 0 0, .slice none 0 0] 25)).cell? ⟨g, 3, none⟩ = some (.int .i64 eu.n) := f2
    replace f3 : (w3.alloc (.cells #[.int .i64 5, .bool false, .int .i64 0, .string ⟨#[]⟩, .slice none 0 0, .slice none 0 0] 25)).cell? ⟨g, 4, none⟩ = some (.string ⟨eu.s.toArray⟩) := f3
    replace f4 : (w3.alloc (.cells #[.int .i64 5, .bool false, .int .i64 0, .string ⟨#[]⟩, .slice none 0 0, .slice none 0 0] 25)).cell? ⟨g, 5, none⟩ = some (.slice eA enl ecl) := f4
    replace f5 : (w3.alloc (.cells #[.int .i64 5, .bool false, .int .i64 0, .string ⟨#[]⟩, .slice none 0 0, .slice none 0 0] 25)).cell? ⟨g, 6, none⟩ = some (.slice eB enm ecm) := f5
    have HE := Lib.hid (show (t.fall 0).key = ek ∧ ek.length ≤ 140737488355328 ∧ JCs P w3 [.int .i64 eu.kd, .bool eu.is, .int .i64 eu.n, .string ⟨eu.s.toArray⟩, .slice eA enl ecl, .slice eB enm ecm] (t.fall 0).val from ⟨hek, eKl, by rw [hev]; exact ⟨eA, enl, ecl, eB, enm, ecm, rfl, r1, r2, s1, s2, hf⟩⟩)
    have b5 : Below (w3.alloc (.cells #[.int .i64 5, .bool false, .int .i64 0, .string ⟨#[]⟩, .slice none 0 0, .slice none 0 0] 25)).heap.size (w3.alloc (.cells #[.int .i64 5, .bool false, .int .i64 0, .string ⟨#[]⟩, .slice none 0 0, .slice none 0 0] 25)) ((w3.alloc (.cells #[.int .i64 5, .bool false, .int .i64 0, .string ⟨#[]⟩, .slice none 0 0, .slice none 0 0] 25)).alloc (.cells #[.string ⟨ek.toArray⟩, .int .i64 eu.kd, .bool eu.is, .int .i64 eu.n, .string ⟨eu.s.toArray⟩, .slice eA enl ecl, .slice eB enm ecm] 42)) := (Below.refl _ _).alloc (Nat.le_refl _) _
    have HB5 := Lib.hid b5
    have hO5 := HO.out.later b5
    have HO5 := Lib.hid hO5
    have hM5 := Blk.new (w3.alloc (.cells #[.int .i64 5, .bool false, .int .i64 0, .string ⟨#[]⟩, .slice none 0 0, .slice none 0 0] 25)) [.string ⟨ek.toArray⟩, .int .i64 eu.kd, .bool eu.is, .int .i64 eu.n, .string ⟨eu.s.toArray⟩, .slice eA enl ecl, .slice eB enm ecm] 42
    clear r1 r2 s1 s2 hf hev hek b5 eKl ek0 hce hc e2 e3 hh ht hcs hmx hnc hbg
    go_wp2_with fail
    go_loopw [14] (fun i wr => (i = .int .i64 0 ∧ wr = w3.alloc (.cells #[.int .i64 5, .bool false, .int .i64 0, .string ⟨#[]⟩, .slice none 0 0, .slice none 0 0] 25)) ∨ (i = .int .i64 1 ∧ Hid (MapSt P t w w3.heap.size wr))) (fun i _ => 1 - (intOf i).toNat)
    case atStart => exact .inl ⟨rfl, rfl⟩
    case round =>
      rcases hrel with ⟨rfl, rfl⟩ | ⟨rfl, hM⟩
      · obtain ⟨o0, o1, o2, o3, o4, o5, p0, p1, p2, p3, p4, p5⟩ := cells6s hO5
        have m0 := hM5.cell (k := 0) rfl; have m1 := hM5.cell (k := 1) rfl; have m2 := hM5.cell (k := 2) rfl; have m3 := hM5.cell (k := 3) rfl; have m4 := hM5.cell (k := 4) rfl; have m5 := hM5.cell (k := 5) rfl; have m6 := hM5.cell (k := 6) rfl
        go_wp2_with fail
        go_quiet (fail)
        have gO : Blk (((w3.alloc (.cells #[.int .i64 5, .bool false, .int .i64 0, .string ⟨#[]⟩, .slice none 0 0, .slice none 0 0] 25)).alloc (.cells #[.string ⟨ek.toArray⟩, .int .i64 eu.kd, .bool eu.is, .int .i64 eu.n, .string ⟨eu.s.toArray⟩, .slice eA enl ecl, .slice eB enm ecm] 42)).drewN nq) w3.heap.size 25 [.int .i64 5, .bool false, .int .i64 0, .string ⟨#[]⟩, .slice none 0 0, .slice none 0 0] := hO5.drewN nq
        have gZ : Blk (((w3.alloc (.cells #[.int .i64 5, .bool false, .int .i64 0, .string ⟨#[]⟩, .slice none 0 0, .slice none 0 0] 25)).alloc (.cells #[.string ⟨ek.toArray⟩, .int .i64 eu.kd, .bool eu.is, .int .i64 eu.n, .string ⟨eu.s.toArray⟩, .slice eA enl ecl, .slice eB enm ecm] 42)).drewN nq) w.heap.size 25 [.int .i64 0, .bool false, .int .i64 0, .string ⟨#[]⟩, .slice none 0 0, .slice none 0 0] := (HZ3.out.later HB5.out).drewN nq
        have gB : Below w.heap.size w (((w3.alloc (.cells #[.int .i64 5, .bool false, .int .i64 0, .string ⟨#[]⟩, .slice none 0 0, .slice none 0 0] 25)).alloc (.cells #[.string ⟨ek.toArray⟩, .int .i64 eu.kd, .bool eu.is, .int .i64 eu.n, .string ⟨eu.s.toArray⟩, .slice eA enl ecl, .slice eB enm ecm] 42)).drewN nq) := (HB3.out.then_ HB5.out).drewN nq
        have gB3 : Below w3.heap.size w3 (((w3.alloc (.cells #[.int .i64 5, .bool false, .int .i64 0, .string ⟨#[]⟩, .slice none 0 0, .slice none 0 0] 25)).alloc (.cells #[.string ⟨ek.toArray⟩, .int .i64 eu.kd, .bool eu.is, .int .i64 eu.n, .string ⟨eu.s.toArray⟩, .slice eA enl ecl, .slice eB enm ecm] 42)).drewN nq) := ((HB33.out.then_ HB5.out)).drewN nq
        have gM : Blk (((w3.alloc (.cells #[.int .i64 5, .bool false, .int .i64 0, .string ⟨#[]⟩, .slice none 0 0, .slice none 0 0] 25)).alloc (.cells #[.string ⟨ek.toArray⟩, .int .i64 eu.kd, .bool eu.is, .int .i64 eu.n, .string ⟨eu.s.toArray⟩, .slice eA enl ecl, .slice eB enm ecm] 42)).drewN nq) (w3.heap.size + 1) 42 [.string ⟨ek.toArray⟩, .int .i64 eu.kd, .bool eu.is, .int .i64 eu.n, .string ⟨eu.s.toArray⟩, .slice eA enl ecl, .slice eB enm ecm] := by have h := hM5.drewN nq; rw [show (w3.alloc (.cells #[.int .i64 5, .bool false, .int .i64 0, .string ⟨#[]⟩, .slice none 0 0, .slice none 0 0] 25)).heap.size = w3.heap.size + 1 by simp] at h; exact h
        generalize (((w3.alloc (.cells #[.int .i64 5, .bool false, .int .i64 0, .string ⟨#[]⟩, .slice none 0 0, .slice none 0 0] 25)).alloc (.cells #[.string ⟨ek.toArray⟩, .int .i64 eu.kd, .bool eu.is, .int .i64 eu.n, .string ⟨eu.s.toArray⟩, .slice eA enl ecl, .slice eB enm ecm] 42)).drewN nq) = w5 at *
        have HO7 := Lib.hid gO; have HZ7 := Lib.hid gZ; have HB7 := Lib.hid gB; have HB37 := Lib.hid gB3
        have hgs : w3.heap.size + 2 ≤ w5.heap.size := gM.lt
        clear hO5 hM5 HO5 HB5 o0 o1 o2 o3 o4 o5 p0 p1 p2 p3 p4 p5 m0 m1 m2 m3 m4 m5 m6 eK f0 f1 f2 f3 f4 f5
        obtain ⟨o0, o1, o2, o3, o4, o5, p0, p1, p2, p3, p4, p5⟩ := cells6s gO
        have m0 := gM.cell (k := 0) rfl; have m1 := gM.cell (k := 1) rfl; have m2 := gM.cell (k := 2) rfl; have m3 := gM.cell (k := 3) rfl; have m4 := gM.cell (k := 4) rfl; have m5 := gM.cell (k := 5) rfl; have m6 := gM.cell (k := 6) rfl
        have HNI := Lib.hid (World.ownsRow_nil w5 (w3.heap.size + 1) 42 7)
        clear gO gZ gB gB3 gM
        go_upto_region 8 with fail
        go_wp2_with (at_builtin; refine wpList_append_c7 rfl _ _ rfl (w3.heap.size + 1) _ 0 [] rfl HNI.out [.string ⟨ek.toArray⟩, .int .i64 eu.kd, .bool eu.is, .int .i64 eu.n, .string ⟨eu.s.toArray⟩, .slice eA enl ecl, .slice eB enm ecm] _ rfl rfl (by intro u hu; simp only [List.mem_cons, List.not_mem_nil, or_false] at hu; rcases hu with rfl | rfl | rfl | rfl | rfl | rfl | rfl <;> rfl) rfl (by decide) (by omega) ?_; intro g4 c4 w6 hown g6; have hb6 : Below (w3.heap.size + 1) w5 w6 := (Below.refl _ _).grown g6 (by omega) (fun k hk => by cases hk); have hO6 := HO7.out.below hb6 (Nat.lt_succ_self _); obtain ⟨q0, q1, q2, q3, q4, q5, r0, r1, r2, r3, r4, r5⟩ := cells6s hO6)
        have hb56 : Below w.heap.size w w6 := HB7.out.trans (hb6.mono (by have := HGZ.out; omega))
        have hE6 : RowE P true w6 [.string ⟨ek.toArray⟩, .int .i64 eu.kd, .bool eu.is, .int .i64 eu.n, .string ⟨eu.s.toArray⟩, .slice eA enl ecl, .slice eB enm ecm] t 0 := by
          obtain ⟨hk, hkl, hjc⟩ := HE.out
          refine ⟨⟨by rw [hk]; rfl, by rw [hk]; exact hkl⟩, [.int .i64 eu.kd, .bool eu.is, .int .i64 eu.n, .string ⟨eu.s.toArray⟩, .slice eA enl ecl, .slice eB enm ecm], fun j v hj => ?_, hjc.stay (fun b o hb => (hb6.cell (p := ⟨b, o, none⟩) (by have := HB2.out.size; have := HP.out b hb; show b < _; omega)).trans (HB37.out.cell (p := ⟨b, o, none⟩) (by have := HB2.out.size; have := HP.out b hb; show b < _; omega))) (fun _ h => h)⟩
          rw [show 0 * stM true + kwM true + j = j + 1 by show 0 * 7 + 1 + j = j + 1; omega]; exact hj
        obtain ⟨A5, c5, he5, hc5, hj⟩ := own_jsl (mem := true) (Q := fun b => (P b ∨ w3.heap.size < b) ∧ b < w6.heap.size) (P := P) (t := t) hown HN.out (fun i hi => by obtain rfl : i = 0 := (by have := HN.out; omega); rw [List.nil_append]; exact hE6) (fun b hb => ⟨.inl hb, by have := hb56.size; have := HP.out b hb; omega⟩) (fun g h1 h2 => ⟨.inr h1, h2⟩)
        injection he5 with e1 e2 e3
        subst e1 e3
        have hst : MapSt P t w w3.heap.size (w6.setCell ⟨w3.heap.size, 5, none⟩ (.slice (some ⟨g4, 0, none⟩) 1 c4)) := ⟨hb56.setCell (by show _ ≤ w3.heap.size; have := HGZ.out; omega) _, blk_far (HZ7.out.below hb6 (by have := HGZ.out; omega)) (by have := HGZ.out; omega) _ _, _, c4, hc5, hO6.set_ 5 _,
          hj.stay (fun b o hb => cell_far (by have h0 := HGZ.out; rcases hb.1 with h1 | h1; { have := HP.out b h1; omega }; { omega })) (fun b hb => ⟨hb.1, by simpa [World.setCell] using hb.2⟩)⟩
        have HST := Lib.hid hst
        clear hst hj hE6 hb56 hb6 hO6 hown g6
        go_roundw
        case rel => exact .inr ⟨rfl, HST⟩
        case measure => simp [intOf]
      · obtain ⟨hb, hz, A4, c4, hc4, hO, hj⟩ := hM.out
        have HQ := Lib.hid (And.intro hb (And.intro hz (And.intro hO (And.intro hc4 hj))))
        obtain ⟨o0, o1, o2, o3, o4, o5, p0, p1, p2, p3, p4, p5⟩ := cells6s hO
        obtain ⟨z0, z1, z2, z3, z4, z5, y0, y1, y2, y3, y4, y5⟩ := cells6s hz
        clear hb hz hc4 hO hj hO5 hM5 eK f0 f1 f2 f3 f4 f5
        go_wp2_with fail
        refine bodyPost_ret (res_cell6 rfl _ ⟨w.heap.size, 0, none⟩ _ _ rfl (Blk.load (blk6o (o := 0) HQ.out.2.1) _ Tryz.underlying25 rfl size_v6)) rfl ⟨⟨A4, 1, c4, rfl, ⟨rfl, Nat.le_refl _, by decide⟩, ⟨HN.out, HQ.out.2.2.2.1, by decide⟩, .inl rfl, HQ.out.2.2.2.2.stay (fun b o hb => cell6o (by have h0 := HGZ.out; rcases hb.1 with h1 | h1; { have := HP.out b h1; omega }; { omega })) (fun b hb => ?_), fit_map⟩, below6o HQ.out.1 (Nat.le_refl _)⟩
        rcases hb.1 with h1 | h1
        · exact .inl h1
        · refine .inr ⟨by have := HGZ.out; omega, ?_⟩
          show b < (set6o _ _ 0 _ _ _ _ _ _).heap.size
          rw [size6o]; exact hb.2
  · obtain rfl : n = 0 := by omega
    have ht : t = .nil := by
      cases t with
      | nil => rfl
      | cons => have := HN.out; simp [JT.ext] at this
    subst ht
    have hO := HO.out
    obtain ⟨o0, o1, o2, o3, o4, o5, p0, p1, p2, p3, p4, p5⟩ := cells6s hO
    obtain ⟨z0, z1, z2, z3, z4, z5, y0, y1, y2, y3, y4, y5⟩ := cells6s HZ3.out
    clear hO
    go_wp2_with fail
    go_loopw [14] (fun i wr => i = .int .i64 0 ∧ wr = w3.alloc (.cells #[.int .i64 5, .bool false, .int .i64 0, .string ⟨#[]⟩, .slice none 0 0, .slice none 0 0] 25)) (fun _ _ => 0)
    case atStart => exact ⟨rfl, rfl⟩
    case round =>
      obtain ⟨rfl, rfl⟩ := hrel
      go_wp2_with fail
      exact bodyPost_ret (res_cell6 rfl _ ⟨w.heap.size, 0, none⟩ _ _ rfl (Blk.load (blk6o (o := 0) HZ3.out) _ Tryz.underlying25 rfl size_v6)) rfl ⟨⟨none, 0, 0, rfl, ⟨rfl, Nat.le_refl _, by decide⟩, ⟨rfl, Nat.le_refl _, by decide⟩, .inl rfl, .inl rfl, fit_map⟩, below6o HB3.out (Nat.le_refl _)⟩
end Go.Proofs.YtkbcbikilgcckaaGreatDoor
namespace Go.Proofs.YtkbcbikilgcckaaGreatDoor
open Go.ChangeShapes Go.WideShapes Go.ChangeAt Go.RowKit Go.IntWalk
set_option linter.unusedVariables false
set_option maxRecDepth 100000

def kind0 : List UInt8 := [109, 46, 114, 111, 111, 109, 46, 109, 101, 109, 98, 101, 114]
def keep0 : List (List UInt8) := [[106, 111, 105, 110, 95, 97, 117, 116, 104, 111, 114, 105, 115, 101, 100, 95, 118, 105, 97, 95, 117, 115, 101, 114, 115, 95, 115, 101, 114, 118, 101, 114], [109, 101, 109, 98, 101, 114, 115, 104, 105, 112]]
def kind1 : List UInt8 := [109, 46, 114, 111, 111, 109, 46, 106, 111, 105, 110, 95, 114, 117, 108, 101, 115]
def keep1 : List (List UInt8) := [[97, 108, 108, 111, 119], [106, 111, 105, 110, 95, 114, 117, 108, 101]]
def kind2 : List UInt8 := [109, 46, 114, 111, 111, 109, 46, 112, 111, 119, 101, 114, 95, 108, 101, 118, 101, 108, 115]
def keep2 : List (List UInt8) := [[98, 97, 110], [101, 118, 101, 110, 116, 115], [101, 118, 101, 110, 116, 115, 95, 100, 101, 102, 97, 117, 108, 116], [105, 110, 118, 105, 116, 101], [107, 105, 99, 107], [114, 101, 100, 97, 99, 116], [115, 116, 97, 116, 101, 95, 100, 101, 102, 97, 117, 108, 116], [117, 115, 101, 114, 115], [117, 115, 101, 114, 115, 95, 100, 101, 102, 97, 117, 108, 116]]
def kind3 : List UInt8 := [109, 46, 114, 111, 111, 109, 46, 104, 105, 115, 116, 111, 114, 121, 95, 118, 105, 115, 105, 98, 105, 108, 105, 116, 121]
def keep3 : List (List UInt8) := [[104, 105, 115, 116, 111, 114, 121, 95, 118, 105, 115, 105, 98, 105, 108, 105, 116, 121]]
def kind4 : List UInt8 := [109, 46, 114, 111, 111, 109, 46, 114, 101, 100, 97, 99, 116, 105, 111, 110]
def keep4 : List (List UInt8) := [[114, 101, 100, 97, 99, 116, 115]]
def staysL (k : List UInt8) : List (List UInt8) := if k = kind0 then keep0 else if k = kind1 then keep1 else if k = kind2 then keep2 else if k = kind3 then keep3 else if k = kind4 then keep4 else []
/-- A list of texts, laid. -/
def TextsPost (ls : List (List UInt8)) (w : World) (e : Ending) (w' : World) : Prop :=
  (∃ A : Option Addr, e = .returned (.slice A ls.length ls.length) ∧ ∀ i (h : i < ls.length), ∃ g, A = some ⟨g, 0, none⟩ ∧ w.heap.size ≤ g ∧ g < w'.heap.size ∧ w'.cell? ⟨g, i, none⟩ = some (.string ⟨(ls[i]).toArray⟩)) ∧ Below w.heap.size w w'
theorem texts_new (ls : List (List UInt8)) (w : World) (cs : Array Value) (hc : cs = (ls.map strV).toArray) (n : Nat) (hn : n = ls.length) : TextsPost ls w (.returned (.slice (some ⟨w.heap.size, 0, none⟩) n n)) (w.alloc (.cells cs 9)) := by
  subst hc hn
  have hB := Blk.new w (ls.map strV) 9
  refine ⟨⟨_, rfl, fun i h => ⟨w.heap.size, rfl, Nat.le_refl _, hB.lt, hB.cell ?_⟩⟩, (Below.refl _ _).alloc (Nat.le_refl _) _⟩
  rw [List.getElem?_map, List.getElem?_eq_getElem h]; rfl
set_option maxHeartbeats 4000000 in
theorem stays_calls (k : List UInt8) (w : World) : Calls Tryz.prog 31 #[.string ⟨k.toArray⟩] w (TextsPost (staysL k) w) := by
  by_cases h0 : k = kind0
  · have HE := Lib.hid (show staysL k = keep0 by unfold staysL; rw [if_pos h0])
    have t0 : (k == [109, 46, 114, 111, 111, 109, 46, 109, 101, 109, 98, 101, 114]) = true := by rw [beq_iff_eq]; exact h0
    clear h0
    go_enter Tryz.func31, Tryz.ntmps31
    go_wp2_with fail
    go_ret
    rw [HE.out]
    exact texts_new keep0 w _ rfl _ rfl
  have t0 : (k == [109, 46, 114, 111, 111, 109, 46, 109, 101, 109, 98, 101, 114]) = false := by rw [beq_eq_false_iff_ne]; exact h0
  by_cases h1 : k = kind1
  · have HE := Lib.hid (show staysL k = keep1 by unfold staysL; rw [if_neg h0, if_pos h1])
    have t1 : (k == [109, 46, 114, 111, 111, 109, 46, 106, 111, 105, 110, 95, 114, 117, 108, 101, 115]) = true := by rw [beq_iff_eq]; exact h1
    clear h0 h1
    go_enter Tryz.func31, Tryz.ntmps31
    go_wp2_with fail
    go_ret
    rw [HE.out]
    exact texts_new keep1 w _ rfl _ rfl
  have t1 : (k == [109, 46, 114, 111, 111, 109, 46, 106, 111, 105, 110, 95, 114, 117, 108, 101, 115]) = false := by rw [beq_eq_false_iff_ne]; exact h1
  by_cases h2 : k = kind2
  · have HE := Lib.hid (show staysL k = keep2 by unfold staysL; rw [if_neg h0, if_neg h1, if_pos h2])
    have t2 : (k == [109, 46, 114, 111, 111, 109, 46, 112, 111, 119, 101, 114, 95, 108, 101, 118, 101, 108, 115]) = true := by rw [beq_iff_eq]; exact h2
    clear h0 h1 h2
    go_enter Tryz.func31, Tryz.ntmps31
    go_wp2_with fail
    go_ret
    rw [HE.out]
    exact texts_new keep2 w _ rfl _ rfl
  have t2 : (k == [109, 46, 114, 111, 111, 109, 46, 112, 111, 119, 101, 114, 95, 108, 101, 118, 101, 108, 115]) = false := by rw [beq_eq_false_iff_ne]; exact h2
  by_cases h3 : k = kind3
  · have HE := Lib.hid (show staysL k = keep3 by unfold staysL; rw [if_neg h0, if_neg h1, if_neg h2, if_pos h3])
    have t3 : (k == [109, 46, 114, 111, 111, 109, 46, 104, 105, 115, 116, 111, 114, 121, 95, 118, 105, 115, 105, 98, 105, 108, 105, 116, 121]) = true := by rw [beq_iff_eq]; exact h3
    clear h0 h1 h2 h3
    go_enter Tryz.func31, Tryz.ntmps31
    go_wp2_with fail
    go_ret
    rw [HE.out]
    exact texts_new keep3 w _ rfl _ rfl
  have t3 : (k == [109, 46, 114, 111, 111, 109, 46, 104, 105, 115, 116, 111, 114, 121, 95, 118, 105, 115, 105, 98, 105, 108, 105, 116, 121]) = false := by rw [beq_eq_false_iff_ne]; exact h3
  by_cases h4 : k = kind4
  · have HE := Lib.hid (show staysL k = keep4 by unfold staysL; rw [if_neg h0, if_neg h1, if_neg h2, if_neg h3, if_pos h4])
    have t4 : (k == [109, 46, 114, 111, 111, 109, 46, 114, 101, 100, 97, 99, 116, 105, 111, 110]) = true := by rw [beq_iff_eq]; exact h4
    clear h0 h1 h2 h3 h4
    go_enter Tryz.func31, Tryz.ntmps31
    go_wp2_with fail
    go_ret
    rw [HE.out]
    exact texts_new keep4 w _ rfl _ rfl
  have t4 : (k == [109, 46, 114, 111, 111, 109, 46, 114, 101, 100, 97, 99, 116, 105, 111, 110]) = false := by rw [beq_eq_false_iff_ne]; exact h4
  have HE := Lib.hid (show staysL k = [] by unfold staysL; rw [if_neg h0, if_neg h1, if_neg h2, if_neg h3, if_neg h4])
  clear h0 h1 h2 h3 h4
  go_enter Tryz.func31, Tryz.ntmps31
  go_wp2_with fail
  go_ret
  rw [HE.out]
  exact ⟨⟨none, rfl, fun i h => absurd h (Nat.not_lt_zero i)⟩, Below.refl _ _⟩
set_option maxHeartbeats 4000000 in
theorem kept_calls (k : List UInt8) (w : World) : Calls Tryz.prog 36 #[.string ⟨k.toArray⟩] w (TextsPost (staysL k) w) := by
  by_cases h0 : k = kind0
  · have HE := Lib.hid (show staysL k = keep0 by unfold staysL; rw [if_pos h0])
    have t0 : (k == [109, 46, 114, 111, 111, 109, 46, 109, 101, 109, 98, 101, 114]) = true := by rw [beq_iff_eq]; exact h0
    clear h0
    go_enter Tryz.func36, Tryz.ntmps36
    go_wp2_with fail
    go_ret
    rw [HE.out]
    exact texts_new keep0 w _ rfl _ rfl
  have t0 : (k == [109, 46, 114, 111, 111, 109, 46, 109, 101, 109, 98, 101, 114]) = false := by rw [beq_eq_false_iff_ne]; exact h0
  by_cases h1 : k = kind1
  · have HE := Lib.hid (show staysL k = keep1 by unfold staysL; rw [if_neg h0, if_pos h1])
    have t1 : (k == [109, 46, 114, 111, 111, 109, 46, 106, 111, 105, 110, 95, 114, 117, 108, 101, 115]) = true := by rw [beq_iff_eq]; exact h1
    clear h0 h1
    go_enter Tryz.func36, Tryz.ntmps36
    go_wp2_with fail
    go_ret
    rw [HE.out]
    exact texts_new keep1 w _ rfl _ rfl
  have t1 : (k == [109, 46, 114, 111, 111, 109, 46, 106, 111, 105, 110, 95, 114, 117, 108, 101, 115]) = false := by rw [beq_eq_false_iff_ne]; exact h1
  by_cases h2 : k = kind2
  · have HE := Lib.hid (show staysL k = keep2 by unfold staysL; rw [if_neg h0, if_neg h1, if_pos h2])
    have t2 : (k == [109, 46, 114, 111, 111, 109, 46, 112, 111, 119, 101, 114, 95, 108, 101, 118, 101, 108, 115]) = true := by rw [beq_iff_eq]; exact h2
    clear h0 h1 h2
    go_enter Tryz.func36, Tryz.ntmps36
    go_wp2_with fail
    go_ret
    rw [HE.out]
    exact texts_new keep2 w _ rfl _ rfl
  have t2 : (k == [109, 46, 114, 111, 111, 109, 46, 112, 111, 119, 101, 114, 95, 108, 101, 118, 101, 108, 115]) = false := by rw [beq_eq_false_iff_ne]; exact h2
  by_cases h3 : k = kind3
  · have HE := Lib.hid (show staysL k = keep3 by unfold staysL; rw [if_neg h0, if_neg h1, if_neg h2, if_pos h3])
    have t3 : (k == [109, 46, 114, 111, 111, 109, 46, 104, 105, 115, 116, 111, 114, 121, 95, 118, 105, 115, 105, 98, 105, 108, 105, 116, 121]) = true := by rw [beq_iff_eq]; exact h3
    clear h0 h1 h2 h3
    go_enter Tryz.func36, Tryz.ntmps36
    go_wp2_with fail
    go_ret
    rw [HE.out]
    exact texts_new keep3 w _ rfl _ rfl
  have t3 : (k == [109, 46, 114, 111, 111, 109, 46, 104, 105, 115, 116, 111, 114, 121, 95, 118, 105, 115, 105, 98, 105, 108, 105, 116, 121]) = false := by rw [beq_eq_false_iff_ne]; exact h3
  by_cases h4 : k = kind4
  · have HE := Lib.hid (show staysL k = keep4 by unfold staysL; rw [if_neg h0, if_neg h1, if_neg h2, if_neg h3, if_pos h4])
    have t4 : (k == [109, 46, 114, 111, 111, 109, 46, 114, 101, 100, 97, 99, 116, 105, 111, 110]) = true := by rw [beq_iff_eq]; exact h4
    clear h0 h1 h2 h3 h4
    go_enter Tryz.func36, Tryz.ntmps36
    go_wp2_with fail
    go_ret
    rw [HE.out]
    exact texts_new keep4 w _ rfl _ rfl
  have t4 : (k == [109, 46, 114, 111, 111, 109, 46, 114, 101, 100, 97, 99, 116, 105, 111, 110]) = false := by rw [beq_eq_false_iff_ne]; exact h4
  have HE := Lib.hid (show staysL k = [] by unfold staysL; rw [if_neg h0, if_neg h1, if_neg h2, if_neg h3, if_neg h4])
  clear h0 h1 h2 h3 h4
  go_enter Tryz.func36, Tryz.ntmps36
  go_wp2_with fail
  go_ret
  rw [HE.out]
  exact ⟨⟨none, rfl, fun i h => absurd h (Nat.not_lt_zero i)⟩, Below.refl _ _⟩
end Go.Proofs.YtkbcbikilgcckaaGreatDoor
namespace Go.Proofs.YtkbcbikilgcckaaGreatDoor
open Go.Lib
set_option linter.unusedVariables false

def JT.app : JT → JT → JT
  | .nil, u => u
  | .cons k kd is n s l m r, u => .cons k kd is n s l m (r.app u)
theorem app_nil : ∀ t : JT, t.app .nil = t
  | .nil => rfl
  | .cons k kd is n s l m r => by unfold JT.app; rw [app_nil r]
theorem app_assoc : ∀ t u x : JT, (t.app u).app x = t.app (u.app x)
  | .nil, u, x => rfl
  | .cons k kd is n s l m r, u, x => by simp only [JT.app, app_assoc r u x]
/-- Strictly rising keys. -/
def SortK (ks : List (List UInt8)) : Prop := ks.Pairwise fun a b => compareBytes a b = -1
theorem sortJ_of {t : JT} (h : Rise (slts t)) : SortK t.keys := by
  unfold Rise slts at h
  unfold SortK
  rw [List.pairwise_map] at h
  exact h.imp fun {a b} h => by
    rw [← cmpP_key]; exact h
theorem cb_irr {a : List UInt8} (h : compareBytes a a = -1) : False := by rw [cb_self] at h; exact absurd h (by decide)
def lowJ (key : List UInt8) : JT → JT
  | .nil => .nil
  | .cons k kd is n s l m r => if compareBytes k key = -1 then .cons k kd is n s l m (lowJ key r) else lowJ key r
def highJ (key : List UInt8) : JT → JT
  | .nil => .nil
  | .cons k kd is n s l m r => if compareBytes key k = -1 then .cons k kd is n s l m (highJ key r) else highJ key r
def withJ (t : JT) (key : List UInt8) (v : Jv) : JT := (lowJ key t).app (JT.one key v (highJ key t))
theorem low_at (key : List UInt8) {t : JT} {i : Nat} (h : i < t.ext) : lowJ key (t.fall i) = if compareBytes (t.fall i).key key = -1 then JT.one (t.fall i).key (t.fall i).val (lowJ key (t.fall (i + 1))) else lowJ key (t.fall (i + 1)) := (congrArg (lowJ key) (t.fall_of_lt i h)).trans rfl
theorem high_at (key : List UInt8) {t : JT} {i : Nat} (h : i < t.ext) : highJ key (t.fall i) = if compareBytes key (t.fall i).key = -1 then JT.one (t.fall i).key (t.fall i).val (highJ key (t.fall (i + 1))) else highJ key (t.fall (i + 1)) := (congrArg (highJ key) (t.fall_of_lt i h)).trans rfl
theorem low_end (key : List UInt8) {t : JT} {i : Nat} (h : t.ext ≤ i) : lowJ key (t.fall i) = .nil := by rw [t.fall_all i h]; rfl
theorem high_end (key : List UInt8) {t : JT} {i : Nat} (h : t.ext ≤ i) : highJ key (t.fall i) = .nil := by rw [t.fall_all i h]; rfl
theorem fall_one {t : JT} {i : Nat} {k : List UInt8} {u : Jv} {r : JT} (h : t.fall i = JT.one k u r) : i < t.ext ∧ (t.fall i).key = k ∧ (t.fall i).val = u ∧ t.fall (i + 1) = r := by
  have h1 := JT.fall_ext t i
  rw [h] at h1
  have h2 : (r.ext + 1 : Nat) = t.ext - i := h1
  refine ⟨by omega, by rw [h]; rfl, by rw [h]; rfl, ?_⟩
  rw [JT.fall_succ, h]
  show r.fall 0 = r
  exact JT.fall_zero r
theorem fall_app : ∀ (a b : JT), (a.app b).fall a.ext = b
  | .nil, b => JT.fall_zero b
  | .cons k kd is n s l m r, b => fall_app r b
theorem ext_app : ∀ (a b : JT), (a.app b).ext = a.ext + b.ext
  | .nil, b => (Nat.zero_add _).symm
  | .cons k kd is n s l m r, b => by simp only [JT.app, JT.ext, ext_app r b]; omega
theorem bulk_app : ∀ (a b : JT), (a.app b).bulk = a.bulk + b.bulk
  | .nil, b => (Nat.zero_add _).symm
  | .cons k kd is n s l m r, b => by simp only [JT.app, JT.bulk, bulk_app r b]; omega
theorem lowhigh_bulk (key : List UInt8) : ∀ t : JT, (lowJ key t).bulk + (highJ key t).bulk ≤ t.bulk
  | .nil => Nat.le_refl _
  | .cons k kd is n s l m r => by
    have h := lowhigh_bulk key r
    unfold lowJ highJ
    by_cases h1 : compareBytes k key = -1
    · have h2 : ¬ compareBytes key k = -1 := fun h2 => cb_irr (cb_trans h1 h2)
      rw [if_pos h1, if_neg h2]; simp only [JT.bulk]; omega
    · rw [if_neg h1]
      by_cases h2 : compareBytes key k = -1
      · rw [if_pos h2]; simp only [JT.bulk]; omega
      · rw [if_neg h2]; simp only [JT.bulk]; omega
theorem with_bulk (t : JT) (key : List UInt8) (v : Jv) : (withJ t key v).bulk ≤ t.bulk + v.bulk := by
  have := lowhigh_bulk key t
  unfold withJ
  rw [bulk_app, JT.bulk_one]; omega
theorem findV_app : ∀ (a b : JT) (k : List UInt8), (a.app b).findV k = (match a.findV k with | some u => some u | none => b.findV k)
  | .nil, b, k => rfl
  | .cons k0 kd is n s l m r, b, k => by
    simp only [JT.app, JT.findV]
    by_cases h : k0 = k
    · rw [if_pos h, if_pos h]
    · rw [if_neg h, if_neg h]; exact findV_app r b k
theorem findV_low (key k : List UInt8) : ∀ t : JT, (lowJ key t).findV k = if compareBytes k key = -1 then t.findV k else none
  | .nil => by simp [lowJ, JT.findV]
  | .cons k0 kd is n s l m r => by
    have ih := findV_low key k r
    by_cases h1 : compareBytes k0 key = -1
    · rw [lowJ, if_pos h1, JT.findV, JT.findV]
      by_cases h : k0 = k
      · rw [if_pos h, if_pos h]; subst h; rw [if_pos h1]
      · rw [if_neg h, if_neg h]; exact ih
    · rw [lowJ, if_neg h1, ih, JT.findV]
      by_cases h : k0 = k
      · subst h; rw [if_neg h1, if_neg h1]
      · rw [if_neg h]
theorem findV_high (key k : List UInt8) : ∀ t : JT, (highJ key t).findV k = if compareBytes key k = -1 then t.findV k else none
  | .nil => by simp [highJ, JT.findV]
  | .cons k0 kd is n s l m r => by
    have ih := findV_high key k r
    by_cases h1 : compareBytes key k0 = -1
    · rw [highJ, if_pos h1, JT.findV, JT.findV]
      by_cases h : k0 = k
      · rw [if_pos h, if_pos h]; subst h; rw [if_pos h1]
      · rw [if_neg h, if_neg h]; exact ih
    · rw [highJ, if_neg h1, ih, JT.findV]
      by_cases h : k0 = k
      · subst h; rw [if_neg h1, if_neg h1]
      · rw [if_neg h]
theorem findV_with {t : JT} {key : List UInt8} {v : Jv} {k : List UInt8} (h : k ≠ key) : (withJ t key v).findV k = t.findV k := by
  unfold withJ
  rw [findV_app, findV_low]
  have h3 : (JT.one key v (highJ key t)).findV k = (highJ key t).findV k := if_neg (fun e => h e.symm)
  rw [h3, findV_high]
  rcases cb_three k key with h1 | h1 | h1
  · rw [if_pos h1]
    have h2 : ¬ compareBytes key k = -1 := fun h2 => cb_irr (cb_trans h1 h2)
    rw [if_neg h2]
    cases t.findV k <;> rfl
  · exact absurd (cb_eq h1) h
  · rw [if_neg (by rw [h1]; decide), if_pos (by rw [cb_anti, h1])]
def allR : JT → Bool
  | .nil => true
  | .cons k kd is n s l m r => (risF true none m && risF false none l) && allR r
theorem ris_all (mem : Bool) : ∀ (t : JT) (p : Option (List UInt8)), risF mem p t = true → allR t = true
  | .nil, _, _ => rfl
  | .cons k kd is n s l m r, p, h => by
    simp only [risF, Bool.and_eq_true] at h
    simp only [allR, Bool.and_eq_true]
    exact ⟨⟨h.1.1.2, h.1.2⟩, ris_all mem r _ h.2⟩
theorem ris_of : ∀ (t : JT) (p : Option (List UInt8)), SortK t.keys → (∀ q, p = some q → ∀ x ∈ t.keys, compareBytes q x = -1) → allR t = true → risF true p t = true
  | .nil, _, _, _, _ => rfl
  | .cons k kd is n s l m r, p, h1, h2, h3 => by
    simp only [allR, Bool.and_eq_true] at h3
    have ih := ris_of r (some k) (List.pairwise_cons.1 h1).2 (fun q hq x hx => by injection hq with hq; subst hq; exact (List.pairwise_cons.1 h1).1 x hx) h3.2
    simp only [risF, Bool.and_eq_true]
    refine ⟨⟨⟨?_, h3.1.1⟩, h3.1.2⟩, ih⟩
    cases p with
    | none => rfl
    | some q =>
      show (!true || Op.bytesLess q k) = true
      rw [bl_cb, h2 q rfl k (List.mem_cons_self ..)]
      rfl
theorem allR_app : ∀ (a b : JT), allR a = true → allR b = true → allR (a.app b) = true
  | .nil, b, _, h => h
  | .cons k kd is n s l m r, b, h1, h2 => by
    simp only [allR, Bool.and_eq_true] at h1
    simp only [JT.app, allR, Bool.and_eq_true]
    exact ⟨h1.1, allR_app r b h1.2 h2⟩
theorem allR_low (key : List UInt8) : ∀ t : JT, allR t = true → allR (lowJ key t) = true
  | .nil, _ => rfl
  | .cons k kd is n s l m r, h => by
    simp only [allR, Bool.and_eq_true] at h
    unfold lowJ
    split
    · simp only [allR, Bool.and_eq_true]; exact ⟨h.1, allR_low key r h.2⟩
    · exact allR_low key r h.2
theorem allR_high (key : List UInt8) : ∀ t : JT, allR t = true → allR (highJ key t) = true
  | .nil, _ => rfl
  | .cons k kd is n s l m r, h => by
    simp only [allR, Bool.and_eq_true] at h
    unfold highJ
    split
    · simp only [allR, Bool.and_eq_true]; exact ⟨h.1, allR_high key r h.2⟩
    · exact allR_high key r h.2
theorem keys_app : ∀ (a b : JT), (a.app b).keys = a.keys ++ b.keys
  | .nil, b => rfl
  | .cons k kd is n s l m r, b => by simp only [JT.app, JT.keys, keys_app r b, List.cons_append]
theorem keys_low (key : List UInt8) : ∀ t : JT, (lowJ key t).keys.Sublist t.keys ∧ ∀ x ∈ (lowJ key t).keys, compareBytes x key = -1
  | .nil => ⟨List.Sublist.refl _, fun x hx => by cases hx⟩
  | .cons k kd is n s l m r => by
    have ih := keys_low key r
    unfold lowJ
    by_cases h : compareBytes k key = -1
    · rw [if_pos h]
      refine ⟨ih.1.cons_cons _, fun x hx => ?_⟩
      rcases List.mem_cons.1 (show x ∈ k :: _ from hx) with rfl | hx
      · exact h
      · exact ih.2 x hx
    · rw [if_neg h]; exact ⟨ih.1.cons _, ih.2⟩
theorem keys_high (key : List UInt8) : ∀ t : JT, (highJ key t).keys.Sublist t.keys ∧ ∀ x ∈ (highJ key t).keys, compareBytes key x = -1
  | .nil => ⟨List.Sublist.refl _, fun x hx => by cases hx⟩
  | .cons k kd is n s l m r => by
    have ih := keys_high key r
    unfold highJ
    by_cases h : compareBytes key k = -1
    · rw [if_pos h]
      refine ⟨ih.1.cons_cons _, fun x hx => ?_⟩
      rcases List.mem_cons.1 (show x ∈ k :: _ from hx) with rfl | hx
      · exact h
      · exact ih.2 x hx
    · rw [if_neg h]; exact ⟨ih.1.cons _, ih.2⟩
theorem with_sort {t : JT} {key : List UInt8} {v : Jv} (h : SortK t.keys) : SortK (withJ t key v).keys := by
  unfold withJ SortK
  rw [keys_app]
  have h1 := keys_low key t
  have h2 := keys_high key t
  refine List.pairwise_append.2 ⟨h.sublist h1.1, List.pairwise_cons.2 ⟨fun x hx => h2.2 x hx, h.sublist h2.1⟩, fun a ha b hb => ?_⟩
  have hak := h1.2 a ha
  rcases List.mem_cons.1 (show b ∈ key :: _ from hb) with rfl | hb
  · exact hak
  · exact cb_trans hak (h2.2 b hb)
theorem with_ris {t : JT} {key : List UInt8} {v : Jv} (h : risF true none t = true) (hv : risV v = true) : risF true none (withJ t key v) = true := by
  refine ris_of _ none (with_sort (sortJ_of (rise_of none t h).1)) (fun q hq => by cases hq) ?_
  have ha := ris_all true t none h
  unfold withJ
  refine allR_app _ _ (allR_low key t ha) ?_
  show ((risF true none v.m && risF false none v.l) && allR (highJ key t)) = true
  rw [allR_high key t ha]
  unfold risV at hv
  rw [hv]; rfl
end Go.Proofs.YtkbcbikilgcckaaGreatDoor
namespace Go.Proofs.YtkbcbikilgcckaaGreatDoor
open Go.ChangeShapes Go.WideShapes Go.ChangeAt Go.RowKit Go.Lib
set_option linter.unusedVariables false

def stepJ (v : Jv) (t : JT) (key : List UInt8) : JT := match getJ v key with
  | some u => t.snoc key u
  | none => t
def outJ (v : Jv) : List (List UInt8) → JT → JT
  | [], t => t
  | k :: ks, t => outJ v ks (stepJ v t k)
theorem outJ_at (v : Jv) {ks : List (List UInt8)} {i : Nat} (h : i < ks.length) (t : JT) : outJ v (ks.drop i) t = outJ v (ks.drop (i + 1)) (stepJ v t ks[i]) := by
  rw [List.drop_eq_getElem_cons h]; rfl
/-- A row whose keys rise, each below all of some others. -/
def OkT (t : JT) (ks : List (List UInt8)) : Prop := Rise (slts t) ∧ ∀ s ∈ slts t, ∀ k ∈ ks, cmpP s.pr (keyP k) = -1
theorem slts_snoc : ∀ (t : JT) (key : List UInt8) (u : Jv), slts (t.snoc key u) = slts t ++ [⟨key, [], []⟩]
  | .nil, key, u => rfl
  | .cons k kd is n s l m r, key, u => by
    have := slts_snoc r key u
    unfold slts at this ⊢
    simp only [JT.snoc, JT.keys, List.map_cons, List.cons_append, this]
theorem OkT.nil (ks : List (List UInt8)) : OkT .nil ks := ⟨List.Pairwise.nil, fun s hs => by cases hs⟩
theorem OkT.step {v : Jv} {t : JT} {k : List UInt8} {ks : List (List UInt8)} (hs : SortK (k :: ks)) (h : OkT t (k :: ks)) : OkT (stepJ v t k) ks := by
  have hk := (List.pairwise_cons.1 hs).1
  unfold stepJ
  cases getJ v k with
  | none => exact ⟨h.1, fun s hx q hq => h.2 s hx q (List.mem_cons_of_mem _ hq)⟩
  | some u =>
    show OkT (t.snoc k u) ks
    refine ⟨?_, fun s hx q hq => ?_⟩
    · rw [slts_snoc]
      exact List.pairwise_append.2 ⟨h.1, List.pairwise_singleton _ _, fun a ha b hb => by
        rw [List.mem_singleton] at hb
        subst hb
        exact h.2 a ha k (List.mem_cons_self ..)⟩
    · rw [slts_snoc, List.mem_append, List.mem_singleton] at hx
      rcases hx with hx | rfl
      · exact h.2 s hx q (List.mem_cons_of_mem _ hq)
      · show cmpP (keyP k) (keyP q) = -1
        rw [cmpP_key]; exact hk q hq
theorem OkT.pos {t : JT} {key : List UInt8} {ks : List (List UInt8)} (h : OkT t (key :: ks)) : fposJ (mapV t) key = t.ext ∧ ffndJ (mapV t) key = false := by
  have hp : posF (slts t) (keyP key) = (slts t).length := (posF_uniq h.1 _ _ (Nat.le_refl _) (fun j hj _ => h.2 _ (List.getElem_mem hj) key (List.mem_cons_self ..)) (fun j hj hge => absurd hj (by omega))).symm
  unfold fposJ ffndJ
  rw [if_pos (show (mapV t).kd = 5 from rfl), if_pos (show (mapV t).kd = 5 from rfl)]
  refine ⟨hp.trans (slts_len t), ?_⟩
  show foundF (slts t) (keyP key) = false
  unfold foundF
  rw [hp, List.getElem?_eq_none (Nat.le_refl _)]
theorem stepJ_ext (v : Jv) (t : JT) (k : List UInt8) : (stepJ v t k).ext ≤ t.ext + 1 := by
  unfold stepJ
  cases getJ v k with
  | none => exact Nat.le_succ _
  | some u => show (t.snoc k u).ext ≤ _; rw [snoc_ext]; exact Nat.le_refl _
theorem stays_sorted (k : List UInt8) : SortK (staysL k) := by
  unfold staysL SortK
  repeat' split
  all_goals decide
theorem stays_len (k : List UInt8) : (staysL k).length ≤ 9 := by
  unfold staysL
  repeat' split
  all_goals decide
theorem stays_short (k : List UInt8) : ∀ x ∈ staysL k, x.length ≤ 100 := by
  unfold staysL
  repeat' split
  all_goals decide
end Go.Proofs.YtkbcbikilgcckaaGreatDoor
