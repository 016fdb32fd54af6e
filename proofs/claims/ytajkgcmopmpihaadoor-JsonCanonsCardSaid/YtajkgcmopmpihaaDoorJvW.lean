/- Layer 9: the program's writer, walked: what goes into no value. -/
import Derived.Test.YtajkgcmopmpihaaDoorJvM
import Derived.Test.YtajkgcmopmpihaaDoorNx
import Derived.WalkLawsBesides
namespace Go.Proofs.YtajkgcmopmpihaaDoor
open Go.ChangeShapes Go.WideShapes Go.ChangeAt Go.RowKit Go.IntWalk
set_option linter.unusedVariables false

/-- What is given up with. -/
def flt (x : Int) : List PanicEntry := [{ v := .iface 31 (.agg #[.int .i64 x]), recovered := false }]
theorem giveUp_calls (x : Int) (w : World) : Calls Tryd.prog 12 #[.int .i64 x] w fun e w' => e = .panicked (flt x) ∧ w = w' := by
  go_enter Tryd.func12, Tryd.ntmps12
  go_wp2
  exact ⟨rfl, rfl, rfl⟩
/-- The writer at g, with its bytes. -/
def WSt (base : Nat) (w : World) (g : Nat) (v : Value) (bs : List UInt8) : Prop := OwnF base w v bs ∧ Blk w g 35 [v] ∧ v.ownBlock ≠ some g ∧ bs.length ≤ 65536
/-- How a call on the writer at g ends. -/
def WEnd (base g : Nat) (w : World) (v : Value) (r : Res) (e : Ending) (w' : World) : Prop :=
  match r with
  | .ok b => e = .returned (.tuple #[]) ∧ ∃ v', WSt base w' g v' b ∧ Nx w w' g v v'
  | .error x => e = .panicked (flt x) ∧ ∃ v', Nx w w' g v v'
section
variable {base g : Nat} {w w1 w2 : World} {v v1 : Value} {bs : List UInt8}
theorem WSt.lt (h : WSt base w g v bs) : g < w.heap.size := h.2.1.lt
theorem WSt.below (h : WSt base w g v bs) (b : Below w.heap.size w w1) : WSt base w1 g v bs := ⟨h.1.below b, h.2.1.later b, h.2.2⟩
theorem WSt.own (h : WSt base w g v bs) (k : Nat) (hk : v.ownBlock = some k) : base ≤ k ∧ k < w.heap.size := h.1.lt k hk
theorem WEnd.ok {r : Res} {b : List UInt8} (hr : r = .ok b) {v' : Value} (h1 : WSt base w1 g v' b) (h2 : Nx w w1 g v v') : WEnd base g w v r (.returned (.tuple #[])) w1 := by
  rw [hr]; exact ⟨rfl, v', h1, h2⟩
theorem WEnd.bad {r : Res} {x : Int} (hr : r = .error x) {v' : Value} (h2 : Nx w w1 g v v') : WEnd base g w v r (.panicked (flt x)) w1 := by
  rw [hr]; exact ⟨rfl, v', h2⟩
theorem WEnd.of_ok {r : Res} {b : List UInt8} (hr : r = .ok b) {e : Ending} (h : WEnd base g w v r e w1) : e = .returned (.tuple #[]) ∧ ∃ v', WSt base w1 g v' b ∧ Nx w w1 g v v' := by
  rw [hr] at h; exact h
theorem WEnd.of_bad {r : Res} {x : Int} (hr : r = .error x) {e : Ending} (h : WEnd base g w v r e w1) : e = .panicked (flt x) ∧ ∃ v', Nx w w1 g v v' := by
  rw [hr] at h; exact h
end
theorem lng_ok {b : List UInt8} (h : b.length ≤ 65536) : lng b = .ok b := by unfold lng; rw [if_pos h]
theorem lng_bad {b : List UInt8} (h : ¬ b.length ≤ 65536) : lng b = .error 3 := by unfold lng; rw [if_neg h]
theorem lng_test {b : List UInt8} {n : Nat} (hn : Hid (n = b.length)) (h : b.length ≤ 65536) : decide ((65536 : Int) < (n : Int)) = false := by
  have := hn.out; simp; omega
theorem lng_test' {b : List UInt8} {n : Nat} (hn : Hid (n = b.length)) (h : ¬ b.length ≤ 65536) : decide ((65536 : Int) < (n : Int)) = true := by
  have := hn.out; simp; omega
theorem ne_of_turn {w : World} {g : Nat} {v v1 : Value} (h : v.ownBlock ≠ some g) (hg : g < w.heap.size) (ch : v1.ownBlock = v.ownBlock ∨ v1.ownBlock = none ∨ ∃ k, v1.ownBlock = some k ∧ w.heap.size ≤ k) : v1.ownBlock ≠ some g := by
  rcases ch with e | e | ⟨k, e, hk⟩
  · rw [e]; exact h
  · rw [e]; simp
  · rw [e]; simp; omega
theorem Blk.of_gb {w w1 : World} {g : Nat} {T : TypeId} {cs : List Value} {row : Option Nat} (h : Blk w g T cs) (hg : w.grownBy w1 row) (hne : row ≠ some g) : Blk w1 g T cs := (hg.block g h.lt (fun e => hne e.symm)).trans h
set_option maxHeartbeats 2000000 in
theorem put_w (base g : Nat) (v : Value) (b l : List UInt8) (w : World) (h : WSt base w g v b) (hB : base ≤ w.heap.size) (hl : l.length ≤ 70368744000000) :
    Calls Tryd.prog 13 #[.pointer (some ⟨g, 0, none⟩), .string ⟨l.toArray⟩] w (WEnd base g w v (lng (b ++ l))) := by
  have c0 : w.cell? ⟨g, 0, none⟩ = some v := h.2.1.cell rfl
  have f0 : w.frozen? ⟨g, 0, none⟩ = false := h.2.1.frozen _
  have HP := Lib.hid h
  have hbl := h.2.2.2
  clear h
  have hlt := HP.out.lt
  by_cases h6 : (b ++ l).length ≤ 65536
  all_goals
    have HR := Lib.hid h6
    go_enter Tryd.func13, Tryd.ntmps13
    go_wp2_with (at_builtin; refine wpList_append_text rfl _ _ rfl base v b rfl HP.out.1 l rfl (by omega) hB ?_; intro v1 w1 own1 gb1 ch1; obtain ⟨A1, n1, cap1, rfl, _, hn1, hc1⟩ := own1.form; have b1 := HP.out.2.1.of_gb gb1 HP.out.2.2.1; have c1 := b1.cell (k := 0) rfl; have f1 := b1.frozen 0; have hd1 := (by first | exact lng_test hn1 HR.out | exact lng_test' hn1 HR.out : decide ((65536 : Int) < (n1 : Int)) = _); clear c0 f0 h6)
  · go_end0
    refine WEnd.ok (lng_ok HR.out) (v' := .slice A1 n1 cap1) ⟨own1.gb (gb_setCell w1 g _ _) (ne_of_turn HP.out.2.2.1 hlt ch1), b1.set_ 0 _, ne_of_turn HP.out.2.2.1 hlt ch1, HR.out⟩ (Nx.trans (Nx.own_turn gb1 ch1) (Nx.of_gb (gb_setCell w1 g _ _)))
  · refine (giveUp_calls _ _).mono ?_
    rintro e w2 ⟨rfl, rfl⟩
    go_wp2_with fail
    exact ⟨rfl, WEnd.bad (lng_bad HR.out) (Nx.trans (Nx.own_turn gb1 ch1) (Nx.of_gb (gb_setCell w1 g _ _)))⟩
set_option maxHeartbeats 2000000 in
theorem open_w (base g : Nat) (v : Value) (b l : List UInt8) (deep : Nat) (w : World) (h : WSt base w g v b) (hB : base ≤ w.heap.size) (hl : l.length ≤ 70368744000000) :
    Calls Tryd.prog 25 #[.pointer (some ⟨g, 0, none⟩), .string ⟨l.toArray⟩, .int .i64 (deep : Int)] w (WEnd base g w v (if 32 ≤ deep then .error 5 else lng (b ++ l))) := by
  by_cases hd : 32 ≤ deep
  · have HR := Lib.hid (show (if 32 ≤ deep then (.error 5 : Res) else lng (b ++ l)) = .error 5 by rw [if_pos hd])
    have hd1 : (32 : Int) ≤ (deep : Int) := by omega
    clear hd
    go_enter Tryd.func25, Tryd.ntmps25
    go_wp2_with fail
    refine (giveUp_calls _ _).mono ?_
    rintro e w2 ⟨rfl, rfl⟩
    go_wp2_with fail
    exact ⟨rfl, WEnd.bad rfl (Nx.refl _ _ v)⟩
  · have HR : (if 32 ≤ deep then (.error 5 : Res) else lng (b ++ l)) = lng (b ++ l) := by rw [if_neg hd]
    rw [HR]
    clear HR
    have hd1 : ¬ (32 : Int) ≤ (deep : Int) := by omega
    have HP := Lib.hid h
    have HC := put_w base g v b l w h hB hl
    have HN := Lib.hid hd
    clear h hd
    cases hr : lng (b ++ l) with
    | ok b1 =>
      have HR := Lib.hid hr
      rw [hr] at HC
      clear hr
      go_enter Tryd.func25, Tryd.ntmps25
      go_wp2_with fail
      refine HC.mono ?_
      rintro e w2 ⟨rfl, v2, h2, n2⟩
      go_wp2_with fail
      go_end0
      exact WEnd.ok rfl h2 n2
    | error x =>
      have HR := Lib.hid hr
      rw [hr] at HC
      clear hr
      go_enter Tryd.func25, Tryd.ntmps25
      go_wp2_with fail
      refine HC.mono ?_
      rintro e w2 ⟨rfl, v2, n2⟩
      go_wp2_with fail
      exact ⟨rfl, WEnd.bad rfl n2⟩
end Go.Proofs.YtajkgcmopmpihaaDoor
