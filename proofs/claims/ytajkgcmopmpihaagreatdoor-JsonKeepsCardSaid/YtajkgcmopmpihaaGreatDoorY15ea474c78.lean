/- Texts put together: JqN Jp9 Jq1 Jq2. -/
import Derived.Test.YtajkgcmopmpihaaGreatDoorY49b39df4f7
import Derived.Test.YtajkgcmopmpihaaGreatDoorY0d315c8227
import Derived.Recover
import Derived.Tactics
import Derived.Tactics2
import Derived.Defers
import Derived.Laws.Pointers
namespace Go.Proofs.YtajkgcmopmpihaaGreatDoor
open Go.Lib
set_option linter.unusedVariables false
theorem numP_ne0 (r : List UInt8) : numP r ≠ .error 0 := by
  unfold numP
  split
  · intro h; injection h with h; exact absurd h (by decide)
  · split
    · split
      · intro h; injection h with h; exact absurd h (by decide)
      · intro h; cases h
    · intro h; injection h with h; exact absurd h (by decide)
theorem P_ne0 : ∀ (f : Nat) (m : Md) (deep : Nat) (r : List UInt8), P f m deep r ≠ .error 0
  | 0, _, _, _ => by unfold P; intro h; injection h with h; exact absurd h (by decide)
  | f + 1, .v, deep, r0 => by
    have he : ∀ (c : Int), c ≠ 0 → (Except.error c : PRes) ≠ .error 0 := fun c hc h => by injection h with h; exact hc h
    have ho : ∀ p, (Except.ok p : PRes) ≠ .error 0 := fun p h => by cases h
    unfold P
    split
    · exact he 4 (by decide)
    · split
      · split
        · exact he 5 (by decide)
        · split
          · exact P_ne0 f _ _ _
          · split
            · exact ho _
            · exact P_ne0 f _ _ _
      · split
        · split
          · exact he 5 (by decide)
          · split
            · exact P_ne0 f _ _ _
            · split
              · exact ho _
              · exact P_ne0 f _ _ _
        · split
          · split
            · exact he 4 (by decide)
            · exact ho _
          · split
            · exact numP_ne0 _
            · split
              · exact ho _
              · split
                · exact ho _
                · split
                  · exact ho _
                  · exact he 4 (by decide)
  | f + 1, .l acc, deep, r0 => by
    have he : ∀ (c : Int), c ≠ 0 → (Except.error c : PRes) ≠ .error 0 := fun c hc h => by injection h with h; exact hc h
    have ho : ∀ p, (Except.ok p : PRes) ≠ .error 0 := fun p h => by cases h
    unfold P
    cases hx : P f .v deep r0 with
    | error e => intro h; exact P_ne0 f .v deep r0 (by rw [hx]; exact h)
    | ok x =>
      simp only [PRes.then]
      split
      · exact he 4 (by decide)
      · split
        · exact ho _
        · split
          · exact P_ne0 f _ _ _
          · exact he 4 (by decide)
  | f + 1, .t acc, deep, r0 => by
    have he : ∀ (c : Int), c ≠ 0 → (Except.error c : PRes) ≠ .error 0 := fun c hc h => by injection h with h; exact hc h
    have ho : ∀ p, (Except.ok p : PRes) ≠ .error 0 := fun p h => by cases h
    unfold P
    split
    · exact he 4 (by decide)
    · split
      · split
        · exact he 4 (by decide)
        · split
          · exact he 6 (by decide)
          · split
            · exact he 4 (by decide)
            · split
              · rename_i d q2 _ _
                cases hx : P f .v deep q2 with
                | error e => intro h; exact P_ne0 f .v deep q2 (by rw [hx]; exact h)
                | ok x =>
                  simp only [PRes.then]
                  split
                  · exact he 4 (by decide)
                  · split
                    · exact ho _
                    · split
                      · exact P_ne0 f _ _ _
                      · exact he 4 (by decide)
              · exact he 4 (by decide)
      · exact he 4 (by decide)
theorem pV_ne0 (n : Nat) (r : List UInt8) : pV n r ≠ .error 0 := P_ne0 _ _ _ _
end Go.Proofs.YtajkgcmopmpihaaGreatDoor
namespace Go.Proofs.YtajkgcmopmpihaaGreatDoor
open Go.ChangeShapes Go.WideShapes Go.ChangeAt Go.RowKit Go.IntWalk
set_option linter.unusedVariables false
set_option maxRecDepth 100000
theorem begin_calls (base : Nat) (Z : Nat → Prop) (w : World) (r : Nat) (s : List UInt8) (at_ : Nat) (U : Value) (fs : List Frm) (h : RSt base w r s at_ U fs) (hE : ErrC w) (hr3 : 2 < r) (hZ : Zs Z w w fs) :
    Calls Tryz.prog 35 #[.pointer (some ⟨r, 0, none⟩)] w (StPost base Z w r s at_ (resume (fs.map (·.fr)) (pV fs.length (s.drop at_)))) := by
  cases hk : skipB (s.drop at_) with
  | nil => exact begin_word base Z w r s at_ U fs h hE hr3 hZ (fun c q hq => by rw [hk] at hq; cases hq)
  | cons c q =>
    by_cases h1 : c = 91
    · exact begin_list base Z w r s at_ U fs h hE hr3 hZ ⟨q, by rw [hk, h1]⟩
    by_cases h2 : c = 123
    · exact begin_table base Z w r s at_ U fs h hE hr3 hZ ⟨q, by rw [hk, h2]⟩
    by_cases h3 : c = 34
    · exact begin_text base Z w r s at_ U fs h hE hr3 hZ ⟨q, by rw [hk, h3]⟩
    by_cases h4 : c = 45 ∨ digB c = true
    · exact begin_num base Z w r s at_ U fs h hE hr3 hZ ⟨c, q, hk, h4⟩
    · exact begin_word base Z w r s at_ U fs h hE hr3 hZ (fun c' q' hq => by
        rw [hk] at hq
        injection hq with e1 e2
        subst e1
        exact ⟨h1, h2, h3, h4⟩)
theorem lay_calls (base : Nat) (Z : Nat → Prop) (w : World) (r : Nat) (s : List UInt8) (at_ : Nat) (U : Value) (f : Frm) (fs : List Frm) (Fv : Nat → Prop) (v : Jv) (A B : Option Addr) (nl cl nm cm : Nat)
    (h : Whole9 base w r s at_ U (f :: fs) Fv v A B nl cl nm cm) (hZ : Zs Z w w (f :: fs)) (hZv : ∀ b, Z b → ¬ Fv b) (hne : resume ((f :: fs).map (·.fr)) (.ok (v, s.drop at_)) ≠ .error 0) :
    Calls Tryz.prog 36 #[.pointer (some ⟨r, 0, none⟩), valC v A B nl cl nm cm] w (StPost base Z w r s at_ (resume ((f :: fs).map (·.fr)) (.ok (v, s.drop at_)))) := by
  obtain ⟨fr, g, L, mb, F⟩ := f
  cases fr with
  | l acc => exact lay_list base Z w r s at_ U acc g L mb F fs Fv v A B nl cl nm cm h hZ hZv
  | t acc key => exact lay_table base Z w r s at_ U acc key g L mb F fs Fv v A B nl cl nm cm h hZ hZv
  | k acc => exact absurd rfl hne
theorem ErrC.below {B : Nat} {w w' : World} (h : ErrC w) (hb : Below B w w') (hB : 2 < B) : ErrC w' := by
  obtain ⟨h0, ⟨v, a1, a2⟩, v2, b1, b2⟩ := h
  exact ⟨Nat.lt_of_lt_of_le h0 hb.size, ⟨v, by rw [hb.cell (p := ⟨1, 0, none⟩) (by show 1 < B; omega)]; exact a1, a2⟩, v2, by rw [hb.cell (p := ⟨2, 0, none⟩) hB]; exact b1, b2⟩
structure AlSt (base : Nat) (w : World) (r : Nat) (s : List UInt8) (R : PRes) (q1 q2 : Nat) (c : Bool) (wr : World) : Prop where
  below : Below base w wr
  res : Blk wr q2 25 [.int .i64 0, .bool false, .int .i64 0, .string ⟨#[]⟩, .slice none 0 0, .slice none 0 0]
  b1 : base ≤ q1
  b2 : base ≤ q2
  ne : q1 ≠ q2
  arm : (c = false ∧ ∃ at' U f fs, RSt base wr r s at' U (f :: fs) ∧ R = resume ((f :: fs).map (·.fr)) (pV (fs.length + 1) (s.drop at')) ∧ Zs (fun b => b = q1 ∨ b = q2) wr wr (f :: fs) ∧ Blk wr q1 25 [.int .i64 0, .bool false, .int .i64 0, .string ⟨#[]⟩, .slice none 0 0, .slice none 0 0]) ∨
    (c = true ∧ ∃ at' U fs F v A B nl cl nm cm, Whole9 base wr r s at' U fs F v A B nl cl nm cm ∧ R = resume (fs.map (·.fr)) (.ok (v, s.drop at')) ∧ Zs (fun b => b = q1 ∨ b = q2) wr wr fs ∧ (∀ b, (b = q1 ∨ b = q2) → ¬ F b) ∧ Blk wr q1 25 [.int .i64 v.kd, .bool v.is, .int .i64 v.n, .string ⟨v.s.toArray⟩, .slice A nl cl, .slice B nm cm])
section
variable {base : Nat} {w wr W : World} {r : Nat} {s : List UInt8} {R : PRes} {q1 q2 at_ at' : Nat} {U : Value} {f : Frm} {fs : List Frm}
theorem zs_at {x0 x1 x2 x3 x4 x5 : Value} {cs : List Value} (h : Zs (fun b => b = q1 ∨ b = q2) wr W fs) (hw : wr.heap.size ≤ W.heap.size) (h1 : Blk (set6 W q1 x0 x1 x2 x3 x4 x5) q1 25 cs) (hne : q1 ≠ q2) : Zs (fun b => b = q1 ∨ b = q2) (set6 W q1 x0 x1 x2 x3 x4 x5) (set6 W q1 x0 x1 x2 x3 x4 x5) fs := fun b hb => by
  obtain ⟨g1, g2, ⟨ds, g3⟩, g4⟩ := h b hb
  have hc := chg6s (x0 := x0) (x1 := x1) (x2 := x2) (x3 := x3) (x4 := x4) (x5 := x5) W q1
  refine ⟨Nat.lt_of_lt_of_le g1 (Nat.le_trans hw hc.size), rfl, ?_, g4⟩
  rcases hb with rfl | rfl
  · exact ⟨cs, h1⟩
  · exact ⟨ds, hc.blk g3 (fun e => hne e.symm)⟩
theorem AlSt.no {a0 a1 a2 a3 a4 a5 : Value} (hB : Below base w W) (hq : Blk wr q1 25 [a0, a1, a2, a3, a4, a5]) (hres : Blk wr q2 25 [.int .i64 0, .bool false, .int .i64 0, .string ⟨#[]⟩, .slice none 0 0, .slice none 0 0]) (hw : wr.heap.size ≤ W.heap.size) (b1 : base ≤ q1) (b2 : base ≤ q2) (ne : q1 ≠ q2)
    (h : RSt base W r s at' U (f :: fs)) (hR : R = resume ((f :: fs).map (·.fr)) (pV (fs.length + 1) (s.drop at'))) (hz : Zs (fun b => b = q1 ∨ b = q2) wr W (f :: fs)) :
    AlSt base w r s R q1 q2 false (set6 W q1 (.int .i64 0) (.bool false) (.int .i64 0) (.string ⟨#[]⟩) (.slice none 0 0) (.slice none 0 0)) := by
  have hq' : Blk W q1 25 [a0, a1, a2, a3, a4, a5] := (hz q1 (.inl rfl)).2.1.trans hq
  have hb6 : Blk (set6 W q1 (.int .i64 0) (.bool false) (.int .i64 0) (.string ⟨#[]⟩) (.slice none 0 0) (.slice none 0 0)) q1 _ _ := blk6 hq'
  exact ⟨below6b hB b1, (chg6s W q1).blk ((hz q2 (.inr rfl)).2.1.trans hres) (fun e => ne e.symm), b1, b2, ne, .inl ⟨rfl, at', U, f, fs, rst6 h (h.une hq').1 hq' (h.une hq').2 (fun x hx => (hz q1 (.inl rfl)).2.2.2 x hx), hR, zs_at hz hw hb6 ne, hb6⟩⟩
theorem AlSt.yes {a0 a1 a2 a3 a4 a5 : Value} {F : Nat → Prop} {v : Jv} {A B : Option Addr} {nl cl nm cm : Nat} (hB : Below base w W) (hq : Blk wr q1 25 [a0, a1, a2, a3, a4, a5]) (hres : Blk wr q2 25 [.int .i64 0, .bool false, .int .i64 0, .string ⟨#[]⟩, .slice none 0 0, .slice none 0 0]) (hw : wr.heap.size ≤ W.heap.size) (b1 : base ≤ q1) (b2 : base ≤ q2) (ne : q1 ≠ q2)
    (h : Whole9 base W r s at' U fs F v A B nl cl nm cm) (hR : R = resume (fs.map (·.fr)) (.ok (v, s.drop at'))) (hz : Zs (fun b => b = q1 ∨ b = q2) wr W fs) (hzF : ∀ b, (b = q1 ∨ b = q2) → ¬ F b) :
    AlSt base w r s R q1 q2 true (set6 W q1 (.int .i64 v.kd) (.bool v.is) (.int .i64 v.n) (.string ⟨v.s.toArray⟩) (.slice A nl cl) (.slice B nm cm)) := by
  obtain ⟨h2, h3, h4, h5⟩ := h
  have hq' : Blk W q1 25 [a0, a1, a2, a3, a4, a5] := (hz q1 (.inl rfl)).2.1.trans hq
  have hb6 : Blk (set6 W q1 (.int .i64 v.kd) (.bool v.is) (.int .i64 v.n) (.string ⟨v.s.toArray⟩) (.slice A nl cl) (.slice B nm cm)) q1 _ _ := blk6 hq'
  have hc := chg6s (x0 := .int .i64 v.kd) (x1 := .bool v.is) (x2 := .int .i64 v.n) (x3 := .string ⟨v.s.toArray⟩) (x4 := .slice A nl cl) (x5 := .slice B nm cm) W q1
  exact ⟨below6b hB b1, hc.blk ((hz q2 (.inr rfl)).2.1.trans hres) (fun e => ne e.symm), b1, b2, ne, .inr ⟨rfl, at', U, fs, F, v, A, B, nl, cl, nm, cm, ⟨rst6 h2 (h2.une hq').1 hq' (h2.une hq').2 (fun x hx => (hz q1 (.inl rfl)).2.2.2 x hx), h3.to (fun b o hb2 => hc.cell (h4 b hb2).2.1 (fun e => hzF q1 (.inl rfl) (by have e2 : b = q1 := e; rw [← e2]; exact hb2))) (fun _ h => h), fun b hb2 => ⟨(h4 b hb2).1, Nat.lt_of_lt_of_le (h4 b hb2).2.1 hc.size, (h4 b hb2).2.2⟩, h5.1, h5.2.to (fun b hb2 => hc.block b (h4 b hb2).2.1 (fun e => hzF q1 (.inl rfl) (by have e2 : b = q1 := e; rw [← e2]; exact hb2)))⟩, hR, zs_at hz hw hb6 ne, hzF, hb6⟩⟩
end
def AlPost (base : Nat) (w : World) (r : Nat) (s : List UInt8) (R : PRes) (e : Ending) (w' : World) : Prop :=
  Below base w w' ∧ ((∃ c, R = .error c ∧ e = .panicked (flt c)) ∨
    ∃ at' U F v A B nl cl nm cm, e = .returned (valC v A B nl cl nm cm) ∧ Whole9 base w' r s at' U [] F v A B nl cl nm cm ∧ R = .ok (v, s.drop at'))
def Nxt (base : Nat) (Z : Nat → Prop) (w : World) (r : Nat) (s : List UInt8) (at_ : Nat) (R : PRes) (b : Bool) (x0 x1 x2 x3 x4 x5 : Value) (W : World) : Prop :=
  (b = false ∧ x0 = .int .i64 0 ∧ x1 = .bool false ∧ x2 = .int .i64 0 ∧ x3 = .string ⟨#[]⟩ ∧ x4 = .slice none 0 0 ∧ x5 = .slice none 0 0 ∧ ∃ at' U f fs, at_ < at' ∧ RSt base W r s at' U (f :: fs) ∧ R = resume ((f :: fs).map (·.fr)) (pV (fs.length + 1) (s.drop at')) ∧ Zs Z w W (f :: fs)) ∨
  (b = true ∧ ∃ at' U fs F v A B nl cl nm cm, at_ < at' ∧ x0 = .int .i64 v.kd ∧ x1 = .bool v.is ∧ x2 = .int .i64 v.n ∧ x3 = .string ⟨v.s.toArray⟩ ∧ x4 = .slice A nl cl ∧ x5 = .slice B nm cm ∧ Whole9 base W r s at' U fs F v A B nl cl nm cm ∧ R = resume (fs.map (·.fr)) (.ok (v, s.drop at')) ∧ Zs Z w W fs ∧ ∀ b, Z b → ¬ F b)
theorem StPost.nxt {base : Nat} {Z : Nat → Prop} {w w' : World} {r : Nat} {s : List UInt8} {at_ : Nat} {R : PRes} {e : Ending} (h : StPost base Z w r s at_ R e w') :
    Below base w w' ∧ ((∃ c, R = .error c ∧ e = .panicked (flt c)) ∨ ∃ b x0 x1 x2 x3 x4 x5, e = .returned (.tuple #[.agg #[x0, x1, x2, x3, x4, x5], .bool b]) ∧ Nxt base Z w r s at_ R b x0 x1 x2 x3 x4 x5 w') := by
  obtain ⟨hB, h | ⟨at', U', f, fs', rfl, h1, h2, h3, h4⟩ | ⟨at', U', fs', F, v, A, B, nl, cl, nm, cm, rfl, h1, h2, h3, h4, h5⟩⟩ := h
  · exact ⟨hB, .inl h⟩
  · exact ⟨hB, .inr ⟨false, _, _, _, _, _, _, rfl, .inl ⟨rfl, rfl, rfl, rfl, rfl, rfl, rfl, at', U', f, fs', h1, h2, h3, h4⟩⟩⟩
  · exact ⟨hB, .inr ⟨true, _, _, _, _, _, _, rfl, .inr ⟨rfl, at', U', fs', F, v, A, B, nl, cl, nm, cm, h1, rfl, rfl, rfl, rfl, rfl, rfl, h2, h3, h4, h5⟩⟩⟩
section
variable {base : Nat} {w w0 wr W : World} {r : Nat} {s : List UInt8} {R : PRes} {q1 q2 at_ : Nat} {b : Bool} {x0 x1 x2 x3 x4 x5 : Value}
theorem Nxt.al {a0 a1 a2 a3 a4 a5 : Value} (h : Nxt base (fun b => b = q1 ∨ b = q2) wr r s at_ R b x0 x1 x2 x3 x4 x5 W) (hB : Below base w W) (hq : Blk wr q1 25 [a0, a1, a2, a3, a4, a5]) (hres : Blk wr q2 25 [.int .i64 0, .bool false, .int .i64 0, .string ⟨#[]⟩, .slice none 0 0, .slice none 0 0]) (hw : wr.heap.size ≤ W.heap.size) (b1 : base ≤ q1) (b2 : base ≤ q2) (ne : q1 ≠ q2) :
    AlSt base w r s R q1 q2 b (set6 W q1 x0 x1 x2 x3 x4 x5) ∧ at_ < cellN (set6 W q1 x0 x1 x2 x3 x4 x5) ⟨r, 1, none⟩ ∧ cellN (set6 W q1 x0 x1 x2 x3 x4 x5) ⟨r, 1, none⟩ ≤ s.length := by
  have hc := chg6s (x0 := x0) (x1 := x1) (x2 := x2) (x3 := x3) (x4 := x4) (x5 := x5) W q1
  have key : ∀ at' U fs, RSt base W r s at' U fs → Zs (fun b => b = q1 ∨ b = q2) wr W fs → cellN (set6 W q1 x0 x1 x2 x3 x4 x5) ⟨r, 1, none⟩ = at' := fun at' U fs hst hz => by
    have hq' : Blk W q1 25 [a0, a1, a2, a3, a4, a5] := (hz q1 (.inl rfl)).2.1.trans hq
    have := (hc.blk hst.blk (hst.une hq').1).cell (k := 1) rfl
    unfold cellN
    rw [this]
    simp
  rcases h with ⟨rfl, rfl, rfl, rfl, rfl, rfl, rfl, at', U, f, fs, h1, h2, h3, h4⟩ | ⟨rfl, at', U, fs, F, v, A, B, nl, cl, nm, cm, h1, rfl, rfl, rfl, rfl, rfl, rfl, h2, h3, h4, h5⟩
  · rw [key at' U _ h2 h4]
    exact ⟨AlSt.no hB hq hres hw b1 b2 ne h2 h3 h4, h1, h2.hat⟩
  · rw [key at' U _ h2.1 h4]
    exact ⟨AlSt.yes hB hq hres hw b1 b2 ne h2 h3 h4 h5, h1, h2.1.hat⟩
theorem Nxt.first (h : Nxt base (fun b => b = q2) w0 r s at_ R b x0 x1 x2 x3 x4 x5 W) (hB : Below base w W) (hres : Blk w0 q2 25 [.int .i64 0, .bool false, .int .i64 0, .string ⟨#[]⟩, .slice none 0 0, .slice none 0 0]) (hw : w0.heap.size ≤ W.heap.size) (b2 : base ≤ q2) :
    AlSt base w r s R W.heap.size q2 b (set6 (W.alloc (.cells #[.int .i64 0, .bool false, .int .i64 0, .string ⟨#[]⟩, .slice none 0 0, .slice none 0 0] 25)) W.heap.size x0 x1 x2 x3 x4 x5) := by
  have bA : Below W.heap.size W (W.alloc (.cells #[.int .i64 0, .bool false, .int .i64 0, .string ⟨#[]⟩, .slice none 0 0, .slice none 0 0] 25)) := (Below.refl _ _).alloc (Nat.le_refl _) _
  have hq := Blk.new W [.int .i64 0, .bool false, .int .i64 0, .string ⟨#[]⟩, .slice none 0 0, .slice none 0 0] 25
  have hq2 : q2 < w0.heap.size := hres.lt
  have hzs : ∀ at' U fs, RSt base W r s at' U fs → Zs (fun b => b = q2) w0 W fs → base ≤ W.heap.size ∧ Blk W q2 25 [.int .i64 0, .bool false, .int .i64 0, .string ⟨#[]⟩, .slice none 0 0, .slice none 0 0] ∧ Zs (fun b => b = W.heap.size ∨ b = q2) (W.alloc (.cells #[.int .i64 0, .bool false, .int .i64 0, .string ⟨#[]⟩, .slice none 0 0, .slice none 0 0] 25)) (W.alloc (.cells #[.int .i64 0, .bool false, .int .i64 0, .string ⟨#[]⟩, .slice none 0 0, .slice none 0 0] 25)) fs := fun at' U fs hst hz => by
    have hr2 : Blk W q2 25 [.int .i64 0, .bool false, .int .i64 0, .string ⟨#[]⟩, .slice none 0 0, .slice none 0 0] := (hz q2 rfl).2.1.trans hres
    refine ⟨Nat.le_trans hst.hr (Nat.le_of_lt hst.lt), hr2, fun b hb => ?_⟩
    rcases hb with rfl | rfl
    · exact ⟨hq.lt, rfl, ⟨_, hq⟩, fun x hx hxF => absurd ((hst.ins x hx).2.2.2.2.1 _ hxF).2 (Nat.lt_irrefl _)⟩
    · exact ⟨Nat.lt_of_lt_of_le hr2.lt bA.size, rfl, ⟨_, hr2.later bA⟩, (hz _ rfl).2.2.2⟩
  have hne : W.heap.size ≠ q2 := by omega
  rcases h with ⟨rfl, rfl, rfl, rfl, rfl, rfl, rfl, at', U, f, fs, h1, h2, h3, h4⟩ | ⟨rfl, at', U, fs, F, v, A, B, nl, cl, nm, cm, h1, rfl, rfl, rfl, rfl, rfl, rfl, h2, h3, h4, h5⟩
  · obtain ⟨hbw, hr2, hz2⟩ := hzs at' U _ h2 h4
    exact AlSt.no (hB.trans (bA.mono hbw)) hq (hr2.later bA) (Nat.le_refl _) hbw b2 hne (h2.later bA) h3 hz2
  · obtain ⟨hbw, hr2, hz2⟩ := hzs at' U _ h2.1 h4
    obtain ⟨g1, g2, g3, g4⟩ := h2
    exact AlSt.yes (hB.trans (bA.mono hbw)) hq (hr2.later bA) (Nat.le_refl _) hbw b2 hne ⟨g1.later bA, g2.to (fun b o hb => bA.cell (p := ⟨b, o, none⟩) (g3 b hb).2.1) (fun _ h => h), fun b hb => ⟨(g3 b hb).1, Nat.lt_of_lt_of_le (g3 b hb).2.1 bA.size, (g3 b hb).2.2⟩, g4.1, g4.2.to (fun b hb => bA.block b (g3 b hb).2.1)⟩ h3 hz2 (fun b hb hF => by
      rcases hb with hb | hb
      · have := (g3 b hF).2.1; omega
      · exact h5 b hb hF)
end
theorem there6 {w : World} {g : Nat} {T : TypeId} {a0 a1 a2 a3 a4 a5 : Value} (h : Blk w g T [a0, a1, a2, a3, a4, a5]) : w.there g 0 6 := fun j hj => by
  rw [Nat.zero_add]
  have hl : j < [a0, a1, a2, a3, a4, a5].length := hj
  exact ⟨by rw [h.cell (List.getElem?_eq_getElem hl)]; rfl, h.frozen _⟩
theorem Nxt.one {base : Nat} {Z : Nat → Prop} {w W : World} {r : Nat} {s : List UInt8} {at_ : Nat} {R : PRes} {b : Bool} {x0 x1 x2 x3 x4 x5 : Value} (h : Nxt base Z w r s at_ R b x0 x1 x2 x3 x4 x5 W) : (#[x0, x1, x2, x3, x4, x5] : Array Value).all (·.oneCell') = true := by
  rcases h with ⟨rfl, rfl, rfl, rfl, rfl, rfl, rfl, _⟩ | ⟨rfl, at', U, fs, F, v, A, B, nl, cl, nm, cm, h1, rfl, rfl, rfl, rfl, rfl, rfl, _⟩ <;> simp [Value.oneCell']
theorem Nxt.zq {base : Nat} {Z : Nat → Prop} {w W : World} {r : Nat} {s : List UInt8} {at_ : Nat} {R : PRes} {b : Bool} {x0 x1 x2 x3 x4 x5 : Value} (h : Nxt base Z w r s at_ R b x0 x1 x2 x3 x4 x5 W) {q : Nat} (hq : Z q) : W.heap[q]? = w.heap[q]? := by
  rcases h with ⟨_, _, _, _, _, _, _, at', U, f, fs, h1, h2, h3, h4⟩ | ⟨_, at', U, fs, F, v, A, B, nl, cl, nm, cm, h1, _, _, _, _, _, _, h2, h3, h4, h5⟩
  · exact (h4 q hq).2.1
  · exact (h4 q hq).2.1
theorem Whole9.set6 {base : Nat} {W : World} {r g at' : Nat} {s : List UInt8} {U : Value} {F : Nat → Prop} {v : Jv} {A B : Option Addr} {nl cl nm cm : Nat} {cs : List Value} {x0 x1 x2 x3 x4 x5 : Value} (h : Whole9 base W r s at' U [] F v A B nl cl nm cm) (hb : Blk W g 25 cs) (hFv : ¬ F g) :
    Whole9 base (set6 W g x0 x1 x2 x3 x4 x5) r s at' U [] F v A B nl cl nm cm := by
  obtain ⟨h2, h3, h4, h5⟩ := h
  have hc := chg6s (x0 := x0) (x1 := x1) (x2 := x2) (x3 := x3) (x4 := x4) (x5 := x5) W g
  exact ⟨rst6 h2 (h2.une hb).1 hb (h2.une hb).2 (fun x hx => by cases hx), h3.to (fun b o hb2 => hc.cell (h4 b hb2).2.1 (fun e => hFv (by have e2 : b = g := e; rw [← e2]; exact hb2))) (fun _ h => h), fun b hb2 => ⟨(h4 b hb2).1, Nat.lt_of_lt_of_le (h4 b hb2).2.1 hc.size, (h4 b hb2).2.2⟩, h5.1, h5.2.to (fun b hb2 => hc.block b (h4 b hb2).2.1 (fun e => hFv (by have e2 : b = g := e; rw [← e2]; exact hb2)))⟩
end Go.Proofs.YtajkgcmopmpihaaGreatDoor
namespace Go.Proofs.YtajkgcmopmpihaaGreatDoor
open Go.ChangeShapes Go.WideShapes Go.ChangeAt Go.RowKit Go.IntWalk
set_option linter.unusedVariables false
set_option maxRecDepth 100000
set_option maxHeartbeats 4000000 in
theorem all_calls (base : Nat) (w : World) (r : Nat) (s : List UInt8) (at_ : Nat) (U : Value) (h : RSt base w r s at_ U []) (hE : ErrC w) (hb2 : 2 < base) :
    Calls Tryz.prog 22 #[.pointer (some ⟨r, 0, none⟩)] w (AlPost base w r s (pV 0 (s.drop at_))) := by
  obtain ⟨R, hR⟩ : ∃ R, pV 0 (s.drop at_) = R := ⟨_, rfl⟩
  rw [hR]
  have HR := Lib.hid hR
  have HNE := Lib.hid (show R ≠ .error 0 by rw [← hR]; exact pV_ne0 _ _)
  have HE := Lib.hid (And.intro hE (And.intro hb2 (show 2 < r from Nat.lt_of_lt_of_le hb2 h.hr)))
  have hbw : base ≤ w.heap.size := Nat.le_trans h.hr (Nat.le_of_lt h.lt)
  have b0 : Below w.heap.size w (w.alloc (.cells #[.int .i64 0, .bool false, .int .i64 0, .string ⟨#[]⟩, .slice none 0 0, .slice none 0 0] 25)) := (Below.refl _ _).alloc (Nat.le_refl _) _
  have HI := Lib.hid (And.intro (h.later b0) (And.intro (b0.mono hbw) (And.intro (Blk.new w [.int .i64 0, .bool false, .int .i64 0, .string ⟨#[]⟩, .slice none 0 0, .slice none 0 0] 25) hbw)))
  clear h hE hb2 hbw b0 hR
  go_enter Tryz.func22, Tryz.ntmps22
  go_upto_region 1 with fail
  refine wp_gen (fun W => RSt base W r s at_ U [] ∧ Below base w W ∧ Blk W w.heap.size 25 [.int .i64 0, .bool false, .int .i64 0, .string ⟨#[]⟩, .slice none 0 0, .slice none 0 0] ∧ base ≤ w.heap.size) HI.out ?_
  clear HI
  rintro W0 ⟨g1, g2, g3, g4⟩
  have H0 := Lib.hid (And.intro g1 (And.intro g2 (And.intro g3 g4)))
  clear g1 g2 g3 g4
  go_wp2_with fail
  refine (begin_calls base (fun b => b = w.heap.size) W0 r s at_ U [] H0.out.1 (HE.out.1.below H0.out.2.1 HE.out.2.1) HE.out.2.2 (fun b hb => by subst hb; exact ⟨H0.out.2.2.1.lt, rfl, ⟨_, H0.out.2.2.1⟩, fun x hx => by cases hx⟩)).mono ?_
  rintro e W1 hst
  obtain ⟨c1, ⟨c, hc, rfl⟩ | ⟨b, x0, x1, x2, x3, x4, x5, rfl, hn⟩⟩ := hst.nxt
  · have hc2 : R = .error c := by rw [← HR.out]; exact hc
    have H1 := Lib.hid (And.intro (H0.out.2.1.trans c1) hc2)
    clear c1 hc hc2 hst
    go_wp2_with fail
    exact ⟨rfl, H1.out.1, .inl ⟨c, H1.out.2, rfl⟩⟩
  have HN := Lib.hid hn.one
  have HTH := Lib.hid (there6 (Blk.new W1 [.int .i64 0, .bool false, .int .i64 0, .string ⟨#[]⟩, .slice none 0 0, .slice none 0 0] 25))
  have H1 := Lib.hid (hn.first (H0.out.2.1.trans c1) H0.out.2.2.1 c1.size H0.out.2.2.2)
  clear c1 hst hn
  go_wp2_with (refine wpList_store_mid rfl 25 _ _ rfl W1.heap.size 0 #[x0, x1, x2, x3, x4, x5] rfl rfl HTH.out size_v6 HN.out ?_)
  have HA0 : AlSt base w r s (pV 0 (s.drop at_)) W1.heap.size w.heap.size b ((W1.alloc (.cells #[.int .i64 0, .bool false, .int .i64 0, .string ⟨#[]⟩, .slice none 0 0, .slice none 0 0] 25)).setCells W1.heap.size 0 [x0, x1, x2, x3, x4, x5]) := H1.out
  rw [HR.out] at HA0
  have HA0 := Lib.hid HA0
  clear H1 HTH HN H0
  generalize (W1.alloc (.cells #[.int .i64 0, .bool false, .int .i64 0, .string ⟨#[]⟩, .slice none 0 0, .slice none 0 0] 25)).setCells W1.heap.size 0 [x0, x1, x2, x3, x4, x5] = W2 at HA0 ⊢
  obtain ⟨q1, hq1⟩ : ∃ q, W1.heap.size = q := ⟨_, rfl⟩
  rw [hq1] at HA0 ⊢
  clear hq1
  go_loopw [4] (fun bv wr => ∃ c : Bool, bv = .bool c ∧ Hid (AlSt base w r s R q1 w.heap.size c wr)) (fun _ wr => s.length - cellN wr ⟨r, 1, none⟩)
  case atStart => exact ⟨b, rfl, HA0⟩
  case round =>
    obtain ⟨c, rfl, HA⟩ := hrel
    cases c with
    | false =>
      rcases HA.out.arm with ⟨_, at', U', f, fs, st, hr, hz, hq⟩ | ⟨hx, _⟩
      · have H2 := Lib.hid (And.intro st (And.intro hr (And.intro hz (And.intro hq (show cellN wr ⟨r, 1, none⟩ = at' by unfold cellN; rw [st.blk.cell (k := 1) rfl]; simp)))))
        clear st hr hz hq
        go_wp2_with fail
        refine (begin_calls base (fun b => b = q1 ∨ b = w.heap.size) wr r s at' U' (f :: fs) H2.out.1 (HE.out.1.below HA.out.below HE.out.2.1) HE.out.2.2 H2.out.2.2.1).mono ?_
        rintro e W hst
        obtain ⟨c1, ⟨c, hc, rfl⟩ | ⟨b, x0, x1, x2, x3, x4, x5, rfl, hn⟩⟩ := hst.nxt
        · have hc2 : R = .error c := by rw [H2.out.2.1]; exact hc
          have H1 := Lib.hid (And.intro (HA.out.below.trans c1) hc2)
          clear c1 hc hc2 hst
          go_wp2_with fail
          exact ⟨rfl, H1.out.1, .inl ⟨c, H1.out.2, rfl⟩⟩
        · have HN := Lib.hid hn.one
          have hq' : Blk W q1 25 [.int .i64 0, .bool false, .int .i64 0, .string ⟨#[]⟩, .slice none 0 0, .slice none 0 0] := (hn.zq (.inl rfl)).trans H2.out.2.2.2.1
          have HTH := Lib.hid (there6 hq')
          have hn2 : Nxt base (fun b => b = q1 ∨ b = w.heap.size) wr r s at' R b x0 x1 x2 x3 x4 x5 W := by rw [H2.out.2.1]; exact hn
          have HX := Lib.hid (hn2.al (HA.out.below.trans c1) H2.out.2.2.2.1 HA.out.res c1.size HA.out.b1 HA.out.b2 HA.out.ne)
          clear c1 hst hn hn2 hq'
          go_wp2_with (refine wpList_store_mid rfl 25 _ _ rfl q1 0 #[x0, x1, x2, x3, x4, x5] rfl rfl HTH.out size_v6 HN.out ?_)
          exact ⟨⟨b, rfl, Lib.hid HX.out.1⟩, by
            have h1 := HX.out.2.1
            have h2 := HX.out.2.2
            have h3 := H2.out.2.2.2.2
            show s.length - cellN (set6 W q1 x0 x1 x2 x3 x4 x5) ⟨r, 1, none⟩ < s.length - cellN wr ⟨r, 1, none⟩
            omega⟩
      · cases hx
    | true =>
      rcases HA.out.arm with ⟨hx, _⟩ | ⟨_, at', U', fs, F, v, A, B, nl, cl, nm, cm, hw9, hr, hz, hzF, hq⟩
      · cases hx
      · cases fs with
        | nil =>
          obtain ⟨A', n', cap', hU, _, hn', hnc'⟩ := hw9.1.own.form
          have hn0 : n' = 0 := by rw [hn'.out]; rfl
          subst hn0
          subst hU
          have d2 := hw9.1.blk.cell (k := 2) rfl
          have H2 := Lib.hid (And.intro hw9 (And.intro hr (And.intro hzF hq)))
          obtain ⟨a0, a1, a2, a3, a4, a5, _⟩ := cells6s hq
          obtain ⟨z0, z1, z2, z3, z4, z5, y0, y1, y2, y3, y4, y5⟩ := cells6s HA.out.res
          clear hw9 hr hz hzF hq hn' hnc'
          go_wp2_with fail
          exact bodyPost_ret (res_cell6 rfl _ ⟨w.heap.size, 0, none⟩ _ _ rfl (Blk.load (blk6 HA.out.res) _ Tryz.underlying25 rfl size_v6)) rfl ⟨below6b HA.out.below HA.out.b2, .inr ⟨at', _, F, v, A, B, nl, cl, nm, cm, rfl, H2.out.1.set6 HA.out.res (H2.out.2.2.1 _ (.inr rfl)), H2.out.2.1⟩⟩
        | cons f fs =>
          obtain ⟨A', n', cap', hU, _, hn', hnc'⟩ := hw9.1.own.form
          have hn0 : n' = fs.length + 1 := by rw [hn'.out]; simp
          subst hU
          have d2 := hw9.1.blk.cell (k := 2) rfl
          have hg1 : (0 : Int) < (n' : Int) := by omega
          have hg2 : decide ((0 : Int) < (n' : Int)) = true := by simpa using hg1
          have H2 := Lib.hid (And.intro hw9 (And.intro hr (And.intro hz (And.intro hzF (And.intro hq (show cellN wr ⟨r, 1, none⟩ = at' by unfold cellN; rw [hw9.1.blk.cell (k := 1) rfl]; simp))))))
          obtain ⟨a0, a1, a2, a3, a4, a5, _⟩ := cells6s hq
          clear hw9 hr hz hzF hq hn' hnc' hn0
          go_wp2_with fail
          refine (lay_calls base (fun b => b = q1 ∨ b = w.heap.size) wr r s at' _ f fs F v A B nl cl nm cm H2.out.1 H2.out.2.2.1 H2.out.2.2.2.1 (by rw [← H2.out.2.1]; exact HNE.out)).mono ?_
          rintro e W hst
          obtain ⟨c1, ⟨c, hc, rfl⟩ | ⟨b, x0, x1, x2, x3, x4, x5, rfl, hn⟩⟩ := hst.nxt
          · have hc2 : R = .error c := by rw [H2.out.2.1]; exact hc
            have H1 := Lib.hid (And.intro (HA.out.below.trans c1) hc2)
            clear c1 hc hc2 hst
            go_wp2_with fail
            exact ⟨rfl, H1.out.1, .inl ⟨c, H1.out.2, rfl⟩⟩
          · have HN := Lib.hid hn.one
            have hq' : Blk W q1 25 [.int .i64 v.kd, .bool v.is, .int .i64 v.n, .string ⟨v.s.toArray⟩, .slice A nl cl, .slice B nm cm] := (hn.zq (.inl rfl)).trans H2.out.2.2.2.2.1
            have HTH := Lib.hid (there6 hq')
            have hn2 : Nxt base (fun b => b = q1 ∨ b = w.heap.size) wr r s at' R b x0 x1 x2 x3 x4 x5 W := by rw [H2.out.2.1]; exact hn
            have HX := Lib.hid (hn2.al (HA.out.below.trans c1) H2.out.2.2.2.2.1 HA.out.res c1.size HA.out.b1 HA.out.b2 HA.out.ne)
            clear c1 hst hn hn2 hq'
            go_wp2_with (refine wpList_store_mid rfl 25 _ _ rfl q1 0 #[x0, x1, x2, x3, x4, x5] rfl rfl HTH.out size_v6 HN.out ?_)
            exact ⟨⟨b, rfl, Lib.hid HX.out.1⟩, by
              have h1 := HX.out.2.1
              have h2 := HX.out.2.2
              have h3 := H2.out.2.2.2.2.2
              show s.length - cellN (set6 W q1 x0 x1 x2 x3 x4 x5) ⟨r, 1, none⟩ < s.length - cellN wr ⟨r, 1, none⟩
              omega⟩
end Go.Proofs.YtajkgcmopmpihaaGreatDoor
namespace Go.Proofs.YtajkgcmopmpihaaGreatDoor
open Go.ChangeShapes Go.WideShapes Go.ChangeAt Go.RowKit Go.IntWalk
set_option linter.unusedVariables false
set_option maxRecDepth 100000
theorem exec_store_six {P : Program} {op : Oper} {a : Act} {w : World} (ty : TypeId) (x y : Operand) (ho : op.op = .store ty x y) (b : Nat) (x0 x1 x2 x3 x4 x5 : Value) (hx : a.eval x = .pointer (some ⟨b, 0, none⟩)) (hy : a.eval y = .agg #[x0, x1, x2, x3, x4, x5])
    (ht : w.there b 0 6) (hi : (P.info? ty).map (·.size) = some 6) (h1 : (#[x0, x1, x2, x3, x4, x5] : Array Value).all (·.oneCell') = true) : (execOp a.eval op).run P w = .ok .skip (set6 w b x0 x1 x2 x3 x4 x5) := exec_store_mid ty x y ho b 0 #[x0, x1, x2, x3, x4, x5] hx hy ht hi h1
theorem pcatch_panicking (b : Nat) (x x0 : Int) (a0 a1 a2 a3 a4 a5 : Value) (older : List PanicEntry) (w : World) (hp : Blk w b 25 [a0, a1, a2, a3, a4, a5]) (hq : Blk w (b + 1) 26 [.int .i64 x0]) :
    CallsD Tryz.prog 21 #[.pointer (some ⟨b, 0, none⟩), .pointer (some ⟨b + 1, 0, none⟩)] (.panicking ({ v := .iface 46 (.agg #[.int .i64 x]), recovered := false } :: older)) w fun e u' w' =>
      e = .returned (.tuple #[]) ∧ u' = .panicking ({ v := .iface 46 (.agg #[.int .i64 x]), recovered := true } :: older) ∧ ∃ W, Below w.heap.size w W ∧ w' = (set6 W b (.int .i64 0) (.bool false) (.int .i64 0) (.string ⟨#[]⟩) (.slice none 0 0) (.slice none 0 0)).setCell ⟨b + 1, 0, none⟩ (.int .i64 x) := by
  refine callsD_of_wpS Tryz.func21 rfl fun c₀ cs hu => ?_
  apply wpS_seq
  apply wpS_region
  simp [wpOpsS, go_sem, recoverD, hu, Tryz.ntmps21, Exit.thenS]
  apply wpS_seq
  apply wpS_region
  simp [wpOpsS, go_sem, Exit.thenS]
  refine wpS_cond (t := true) (by simp [Act.eval, Array.replicate]) ?_
  simp only [if_true]
  refine wpS_of_wp ?_
  have hta : ∀ w, (Instr.typeAssert (.iface 46 (.agg #[.int .i64 x])) 20 46 false).run Tryz.prog w = .ok (.agg #[.int .i64 x]) w := fun _ => by kernel_rfl
  have hfd : ∀ w, (Instr.field 46 (.agg #[.int .i64 x]) 0).run Tryz.prog w = .ok (.int .i64 x) w := fun _ => by kernel_rfl
  change Code.wp _ _ _ { tmps := #[.pointer (some ⟨b, 0, none⟩), .pointer (some ⟨b + 1, 0, none⟩), .iface 46 (.agg #[.int .i64 x]), .iface 46 (.agg #[.int .i64 x]), .iface 46 (.agg #[.int .i64 x]), .bool true, undef, undef, undef, undef], defers := [] } w
  refine wp_region_wa (by kernel_rfl) 6 rfl #[false, false, false, false, false, false] (by rfl) ?_
  intro WR hbR
  have hpR := hp.later hbR
  have hqR := hq.later hbR
  refine wa_pure 0 (.agg #[.int .i64 0, .bool false, .int .i64 0, .string ⟨#[]⟩, .slice none 0 0, .slice none 0 0]) rfl (by kernel_rfl) (by kernel_rfl) (by kernel_rfl) (fun _ _ _ h => h) rfl (by intro W; go_simp) ?_
  simp only [Act.put, List.setIfInBounds_toArray, List.set_cons_succ, List.set_cons_zero]
  refine wa_pure 1 (.iface 46 (.agg #[.int .i64 x])) rfl (by kernel_rfl) (by kernel_rfl) (by kernel_rfl) (fun _ _ _ h => h) rfl (by intro W; go_simp) ?_
  simp only [Act.put, List.setIfInBounds_toArray, List.set_cons_succ, List.set_cons_zero]
  refine wa_pure 2 (.agg #[.int .i64 x]) rfl (by kernel_rfl) (by kernel_rfl) (by kernel_rfl) (fun _ _ _ h => h) rfl (by intro W; have := hta W; go_simp) ?_
  simp only [Act.put, List.setIfInBounds_toArray, List.set_cons_succ, List.set_cons_zero]
  refine wa_pure 3 (.int .i64 x) rfl (by kernel_rfl) (by kernel_rfl) (by kernel_rfl) (fun _ _ _ h => h) rfl (by intro W; have := hfd W; go_simp) ?_
  simp only [Act.put, List.setIfInBounds_toArray, List.set_cons_succ, List.set_cons_zero]
  have hrun : ∀ WA : World, WA.cell? ⟨b + 1, 0, none⟩ = some (.int .i64 x0) → WA.frozen? ⟨b + 1, 0, none⟩ = false → (Instr.storeAt 26 (.pointer (some ⟨b + 1, 0, none⟩)) (.int .i64 x)).run Tryz.prog WA = .ok () (WA.setCell ⟨b + 1, 0, none⟩ (.int .i64 x)) := fun WA k1 k2 => by go_simp
  have hq6 : Blk (set6 WR b (.int .i64 0) (.bool false) (.int .i64 0) (.string ⟨#[]⟩) (.slice none 0 0) (.slice none 0 0)) (b + 1) 26 [.int .i64 x0] := (chg6s WR b).blk hqR (fun e => by have e2 : b + 1 = b := e; omega)
  refine wa_op 4 (by kernel_rfl) rfl rfl (wp_of_skip rfl (exec_store_six 25 (.tmp 0) (.tmp 6) rfl b (.int .i64 0) (.bool false) (.int .i64 0) (.string ⟨#[]⟩) (.slice none 0 0) (.slice none 0 0) rfl rfl (there6 hpR) size_v6 (by simp [Value.oneCell'])) ?_)
  obtain ⟨W9, hW9⟩ : ∃ W9, set6 WR b (.int .i64 0) (.bool false) (.int .i64 0) (.string ⟨#[]⟩) (.slice none 0 0) (.slice none 0 0) = W9 := ⟨_, rfl⟩
  rw [hW9] at hq6 ⊢
  refine wa_op 5 (by kernel_rfl) rfl rfl (wp_of_skip rfl (exec_store_one 26 (.tmp 1) (.tmp 9) rfl _ _ rfl rfl (hrun _ (hq6.cell (k := 0) rfl) (hq6.frozen 0))) ?_)
  refine wa_done (by kernel_rfl) ?_
  exact ⟨rfl, _, rfl, .tuple #[], results_none rfl _ _ _, rfl, rfl, WR, hbR, by rw [hW9]⟩
theorem pcatch_idle (p q : Addr) (w : World) :
    CallsD Tryz.prog 21 #[.pointer (some p), .pointer (some q)] .returning w fun e u' w' => e = .returned (.tuple #[]) ∧ u' = .returning ∧ w' = w := by
  refine callsD_of_wpS Tryz.func21 rfl fun c₀ cs hu => ?_
  apply wpS_seq
  apply wpS_region
  simp [wpOpsS, go_sem, recoverD, hu, Tryz.ntmps21, Exit.thenS]
  apply wpS_seq
  apply wpS_region
  simp [wpOpsS, go_sem, Exit.thenS]
  refine wpS_cond (t := false) (by simp [Act.eval, Array.replicate]) ?_
  simp only [Bool.false_eq_true, if_false]
  refine wpS_of_wp (wp_skip ?_)
  cases c₀
  simp_all [bodyPostS, results, Tryz.results21]
end Go.Proofs.YtajkgcmopmpihaaGreatDoor
