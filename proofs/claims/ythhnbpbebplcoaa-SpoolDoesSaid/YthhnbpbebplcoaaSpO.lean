/- Layer 19: a spool beside the document's; a nil spool; what is too much; walked. -/
import Derived.Test.YthhnbpbebplcoaaSpN
namespace Go.Proofs.Ythhnbpbebplcoaa
open Go.ChangeShapes Go.WideShapes Go.ChangeAt Go.RowKit Go.IntWalk Go.Shelf
set_option linter.unusedVariables false
attribute [local go_sem] Oper.semAt_some

/-- The program's spool and the document's, in memory of the call's own. -/
def Duo (B : Nat) (w0 w : World) (g : Nat) (v : Value) (s : Sp) (m : Nat) (t : Sp) : Prop := Mine B w0 w g v s ∧ RSt w m t ∧ B ≤ m ∧ m ≠ g ∧ v.ownBlock ≠ some m
section
variable {B g m : Nat} {w0 w w1 : World} {v v1 : Value} {s s1 t t1 : Sp}
theorem Duo.left (h : Duo B w0 w g v s m t) (p : PSt B w1 g v1 s1) (n : Nx w w1 g v v1) : Duo B w0 w1 g v1 s1 m t := by
  refine ⟨h.1.next p n, n.blk h.2.1 h.2.2.2.1 h.2.2.2.2, h.2.2.1, h.2.2.2.1, ?_⟩
  rcases n.own with e | e | ⟨k, e, hk⟩
  · rw [e]; exact h.2.2.2.2
  · rw [e]; simp
  · rw [e]; have := h.2.1.lt; simp; omega
theorem Duo.right (h : Duo B w0 w g v s m t) (r : RSt w1 m t1) (gb : w.grownBy w1 (some m)) : Duo B w0 w1 g v s m t1 := by
  obtain ⟨⟨p, hg, b, hs⟩, r0, hB, hne, ho⟩ := h
  refine ⟨⟨⟨p.1.gb gb ho, p.2.1.kept gb (fun e => hne e.symm), p.2.2⟩, hg, b.gb gb hB hs, Nat.le_trans hs gb.size⟩, r, hB, hne, ho⟩
theorem Duo.later (h : Duo B w0 w g v s m t) (b : Below w.heap.size w w1) : Duo B w0 w1 g v s m t := ⟨h.1.later b, Blk.later h.2.1 b, h.2.2.1, h.2.2.2.1, h.2.2.2.2⟩
theorem Duo.drew (h : Duo B w0 w g v s m t) : Duo B w0 w.drew g v s m t := h.later (Below.refl _ _).drew
theorem Duo.drewN (h : Duo B w0 w g v s m t) (n : Nat) : Duo B w0 (w.drewN n) g v s m t := h.later ((Below.refl _ _).drewN n)
/-- Another block of the call's own stays. -/
theorem Duo.blkL (h : Duo B w0 w g v s m t) (n : Nx w w1 g v v1) {c : Nat} {T : TypeId} {cs : List Value} (hb : Blk w c T cs) (hg : c ≠ g) (ho : v.ownBlock ≠ some c) : Blk w1 c T cs := n.blk hb hg ho
end
theorem off_nil (k : Int) (w : World) : Calls Try.prog 19 #[.pointer none, .int .i64 k] w fun e w' => e = .returned (.tuple #[]) ∧ w = w' := by
  go_enter Try.func19, Try.ntmps19
  go_wp2_with fail
  exact bodyPost_ret (results_none rfl _ _ _) rfl ⟨rfl, rfl⟩
theorem on_nil (w : World) : Calls Try.prog 21 #[.pointer none] w fun e w' => e = .returned (.tuple #[]) ∧ w = w' := by
  go_enter Try.func21, Try.ntmps21
  go_wp2_with fail
  go_end0
  exact ⟨rfl, rfl⟩
theorem arm_nil (n k : Int) (w : World) : Calls Try.prog 22 #[.pointer none, .int .i64 n, .int .i64 k] w fun e w' => e = .returned (.tuple #[]) ∧ w = w' := by
  go_enter Try.func22, Try.ntmps22
  go_wp2_with fail
  go_end0
  exact ⟨rfl, rfl⟩
theorem ready_nil (w : World) : Calls Try.prog 29 #[.pointer none] w fun e w' => e = .returned (.int .i64 2) ∧ w = w' := by
  go_enter Try.func29, Try.ntmps29
  go_wp2_with fail
  go_ret
  exact ⟨rfl, rfl⟩
theorem append_nil (l : ByteArray) (w : World) : Calls Try.prog 12 #[.pointer none, .string l] w fun e w' => e = .returned (.int .i64 2) ∧ w = w' := by
  go_enter Try.func12, Try.ntmps12
  go_wp2_with fail
  refine (ready_nil w).mono ?_
  rintro e w1 ⟨rfl, rfl⟩
  go_wp2_with fail
  go_ret
  exact ⟨rfl, rfl⟩
theorem sync_nil (w : World) : Calls Try.prog 14 #[.pointer none] w fun e w' => e = .returned (.int .i64 2) ∧ w = w' := by
  go_enter Try.func14, Try.ntmps14
  go_wp2_with fail
  refine (ready_nil w).mono ?_
  rintro e w1 ⟨rfl, rfl⟩
  go_wp2_with fail
  go_ret
  exact ⟨rfl, rfl⟩
theorem acts_nil (w : World) : Calls Try.prog 25 #[.pointer none] w fun e w' => e = .returned (.int .i64 0) ∧ w = w' := by
  go_enter Try.func25, Try.ntmps25
  go_wp2_with fail
  go_ret
  exact ⟨rfl, rfl⟩
theorem down_nil (w : World) : Calls Try.prog 26 #[.pointer none] w fun e w' => e = .returned (.bool false) ∧ w = w' := by
  go_enter Try.func26, Try.ntmps26
  go_wp2_with fail
  go_ret
  exact ⟨rfl, rfl⟩
theorem bytes_nil (w : World) : Calls Try.prog 24 #[.pointer none] w fun e w' => e = .returned (.string ⟨#[]⟩) ∧ w = w' := by
  go_enter Try.func24, Try.ntmps24
  go_wp2_with fail
  go_ret
  exact ⟨rfl, rfl⟩
set_option maxRecDepth 100000 in
set_option maxHeartbeats 2000000 in
theorem open_nil (w : World) : Calls Try.prog 16 #[.pointer none] w fun e w' => e = .returned (.tuple #[.slice none 0 0, .int .i64 2]) ∧ Below w.heap.size w w' := by
  refine calls_of_marks Try.func16 rfl ?_
  simp only [Try.ntmps16, List.size_toArray, List.length_cons, List.length_nil, Nat.reduceAdd, Nat.reduceSub, Array.replicate_succ, Array.replicate_zero, List.push_toArray, List.append_toArray, List.nil_append, List.cons_append]
  go_upto_region 1 with fail
  refine wp_gen (fun W => Blk W w.heap.size 34 [.slice none 0 0] ∧ Blk W (w.heap.size + 1) 31 [.int .i64 0] ∧ Below w.heap.size w W ∧ W.heap.size = w.heap.size + 1 + 1) ?_ ?_
  · obtain ⟨h1, h2, h3⟩ := alloc2 w [.slice none 0 0] [.int .i64 0] 34 31
    exact ⟨h1, h2, h3, by simp⟩
  rintro W1 ⟨a0, a1, b1, z1⟩
  have HA := Lib.hid (And.intro a0 (And.intro a1 (And.intro b1 z1)))
  have d0 := a0.cell (k := 0) rfl
  have d1 := a1.cell (k := 0) rfl
  have e0 := a0.frozen 0
  have e1 := a1.frozen 0
  clear a0 a1 b1 z1
  go_wp2_with fail
  refine (ready_nil W1).mono ?_
  rintro e w2 ⟨rfl, rfl⟩
  go_wp2_with fail
  have k0 := (HA.out.1.set_ 0 (.slice none 0 0)).other (g2 := w.heap.size + 1) (k := 0) (by omega) (.int .i64 2)
  have k1 := (HA.out.2.1.other (g2 := w.heap.size) (k := 0) (by omega) (.slice none 0 0)).set_ 0 (.int .i64 2)
  have hb2 : Below w.heap.size w _ := (HA.out.2.2.1.setCell (p := ⟨w.heap.size, 0, none⟩) (Nat.le_refl _) (.slice none 0 0)).setCell (p := ⟨w.heap.size + 1, 0, none⟩) (Nat.le_succ _) (.int .i64 2)
  exact post_early (open_res _ _ w.heap.size (w.heap.size + 1) none 0 0 2 rfl rfl (k0.cell rfl) (k1.cell rfl)) ⟨rfl, hb2⟩
/-- How many bytes a script's texts have. -/
def totC (xs : List Cal) : Nat := (xs.map fun c => c.s.length).sum
theorem totC_snoc (xs : List Cal) (x : Cal) : totC (xs ++ [x]) = totC xs + x.s.length := by simp [totC]
theorem CallRows.at_ {w w1 : World} {A : Option Addr} {n c : Nat} {xs : List Cal} (h : Own22 w A n c xs) (hb : Below w.heap.size w w1) {k : Nat} (hk : k < xs.length) :
    (xs[k]).ok ∧ ∃ b off, A = some ⟨b, off, none⟩ ∧ w1.rangeAt b (off + k * 4) (xs[k]).cells := by
  obtain ⟨h1, b, off, e, hlt, hr⟩ := h.1 k hk
  exact ⟨h1, b, off, e, fun j v hj => (hb.cell (p := ⟨b, off + k * 4 + j, none⟩) hlt).trans (hr j v hj)⟩
def GreatPost (lb : Nat) (xs : List Cal) (w : World) (e : Ending) (w' : World) : Prop := ∃ r, e = .returned (.bool r) ∧ (r = false → xs.length ≤ 60 ∧ lb ≤ 16384 ∧ ∀ x ∈ xs, x.s.length ≤ 16384) ∧ Below w.heap.size w w'
set_option maxRecDepth 100000 in
set_option maxHeartbeats 4000000 in
theorem great_calls (l : List UInt8) (hl : l.length ≤ 140737488355328) (A : Option Addr) (n c : Nat) (xs : List Cal) (w : World) (hx : Own22 w A n c xs) :
    Calls Try.prog 9 #[.string ⟨l.toArray⟩, .slice A n c] w (GreatPost l.length xs w) := by
  have HX := Lib.hid hx
  have HN := Lib.hid hx.2.1.out
  have hnm : n ≤ 9223372036854775807 := Nat.le_trans hx.2.2.1 hx.2.2.2
  clear hx
  go_enter Try.func9, Try.ntmps9
  go_wp2_with fail
  go_loopw [5, 12] (fun t i wr => ∃ k T : Nat, k ≤ n ∧ T ≤ 140737488355328 ∧ i = .int .i64 (k : Int) ∧ t = .int .i64 (T : Int) ∧ l.length ≤ T ∧ (∀ j, ∀ h : j < xs.length, j < k → (xs[j]).s.length ≤ T) ∧ (0 < k → T ≤ 16384) ∧ Below w.heap.size w wr) (fun _ i _ => n - (intOf i).toNat)
  case atStart => exact ⟨0, l.length, Nat.zero_le _, hl, rfl, rfl, Nat.le_refl _, fun j _ h => absurd h (by omega), fun h => absurd h (by omega), Below.refl _ _⟩
  case round =>
    obtain ⟨k, T, hk, hT, rfl, rfl, hlT, hall, h16, hb⟩ := hrel
    by_cases hp : k < n
    · have hkx : k < xs.length := by rw [← HN.out]; exact hp
      obtain ⟨hok, b, off, rfl, hr⟩ := CallRows.at_ HX.out hb hkx
      obtain ⟨x, hxk⟩ : ∃ x, xs[k] = x := ⟨_, rfl⟩
      rw [hxk] at hok hr
      have c0 := hr 0 _ rfl
      have c1 := hr 1 _ rfl
      have c2 := hr 2 _ rfl
      have c3 := hr 3 _ rfl
      rw [Nat.add_zero] at c0
      have hsl := hok.2.2
      obtain ⟨kd, cn, ck, cs⟩ := x
      unfold strV at c3
      dsimp only at c0 c1 c2 c3 hsl
      have HA := Lib.hid (And.intro hall (And.intro hxk (And.intro hb (And.intro hlT h16))))
      clear hr hall hxk hb hlT h16 hok
      have hba := (HA.out.2.2.1.alloc HA.out.2.2.1.size (.cells #[.int .i64 kd, .int .i64 cn, .int .i64 ck, .string ⟨cs.toArray⟩] 30))
      have HBA := Lib.hid hba
      clear hba
      by_cases hbig : 16384 < T + cs.length
      · go_wp2_with fail
        go_ret
        exact ⟨true, rfl, (fun h => by cases h), HBA.out⟩
      · have hk1 : IntKind.i64.wrap ((k : Int) + 1) = ((k + 1 : Nat) : Int) := IntWalk.i64_in _ (by omega)
        go_wp2_with fail
        refine ⟨⟨k + 1, T + cs.length, by omega, by omega, by go_num, by go_num, by have := HA.out.2.2.2.1; omega, ?_, fun _ => by omega, HBA.out⟩, by simp [intOf]; omega⟩
        intro j hj hjk
        by_cases hjk2 : j < k
        · have := HA.out.1 j hj hjk2; omega
        · obtain rfl : j = k := by omega
          rw [HA.out.2.1]
          show cs.length ≤ _
          omega
    · obtain rfl : k = n := by omega
      have HA := Lib.hid (And.intro hall (And.intro hb (And.intro hlT h16)))
      clear hall hb hlT h16
      by_cases h60 : 60 < k
      · have hd60 : decide (60 < (k : Int)) = true := decide_eq_true (by omega)
        go_wp2_with fail
        go_ret
        exact ⟨true, rfl, (fun h => by cases h), HA.out.2.1⟩
      · have hd60 : decide (60 < (k : Int)) = false := decide_eq_false (by omega)
        by_cases hT2 : 16384 < T
        · have hdT : decide (16384 < (T : Int)) = true := decide_eq_true (by omega)
          go_wp2_with fail
          go_ret
          exact ⟨true, rfl, (fun h => by cases h), HA.out.2.1⟩
        · have hdT : decide (16384 < (T : Int)) = false := decide_eq_false (by omega)
          go_wp2_with fail
          go_ret
          refine ⟨false, rfl, fun _ => ⟨by have := HN.out; omega, by have := HA.out.2.2.1; omega, fun x hx => ?_⟩, HA.out.2.1⟩
          obtain ⟨j, hj, rfl⟩ := List.getElem_of_mem hx
          have := HA.out.1 j hj (by have := HN.out; omega)
          omega
end Go.Proofs.Ythhnbpbebplcoaa
