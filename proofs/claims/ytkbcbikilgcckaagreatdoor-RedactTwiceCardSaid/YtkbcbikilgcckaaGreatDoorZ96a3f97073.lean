/- Texts put together: JvR JvQ JvO. -/
import Derived.Test.YtkbcbikilgcckaaGreatDoorZfbe618e092
import Derived.Lib.AppendStr
import Derived.Deep.LoopGhost
namespace Go.Proofs.YtkbcbikilgcckaaGreatDoor
open Go.ChangeShapes Go.WideShapes Go.ChangeAt Go.RowKit Go.IntWalk
set_option linter.unusedVariables false
set_option maxRecDepth 100000

theorem wpList_append_st {ops : Array Oper} {rest : List Oper} {o : Oper} {a : Act} {Q : Exit → Act → World → Prop} {w : World} (hgd : o.guard = none) (s x : Operand)
    (ho : o.op = .call { callee := .builtin .append, args := #[s, x], argTypes := #[65, 9] })
    (base : Nat) (v : Value) (bs : List UInt8) (hs : a.eval s = v) (hown : OwnBs base w v bs) (l : List UInt8) (hx : a.eval x = .string ⟨l.toArray⟩) (hlen : bs.length + l.length ≤ 70368744177664) (hbase : base ≤ w.heap.size)
    (h : ∀ v' w', OwnBs base w' v' (bs ++ l) → w.grownBy w' v.ownBlock → wpList Tryz.prog ops Q rest (a.put o.dst v') w') :
    wpList Tryz.prog ops Q (o :: rest) a w := by
  obtain ⟨i0, hi, hz0, hz1, hz2⟩ := info_parts infoU8
  refine Lib.wpList_append_own_string w hgd s x 65 9 ho base 5 i0 Tryz.underlying65 Tryz.underlying9 hi hz0 hz1 hz2 v _ _ hs hown ⟨l.toArray⟩ hx (by unfold maxLen; show _ + l.length ≤ _; omega) (by show _ + l.length ≤ _; omega) hbase ?_
  intro v' w' h1 h2 _
  refine h v' w' ?_ h2
  unfold OwnBs
  rw [List.length_append, List.map_append]
  exact h1
/-- What a call that puts bytes behind bytes of one's own leaves: all below base, and all that isn't bytes. -/
structure Nb (base : Nat) (w w' : World) : Prop where
  os : w'.os = w.os
  tape : w'.tape = w.tape
  output : w'.output = w.output
  size : w.heap.size ≤ w'.heap.size
  low : ∀ k, k < base → w'.heap[k]? = w.heap[k]?
  box : ∀ (k : Nat) (o : Obj), w.heap[k]? = some o → (∀ c f, o ≠ .cells c 5 f) → w'.heap[k]? = some o
section
variable {base : Nat} {w w1 w2 : World} {v : Value} {bs : List UInt8}
theorem Nb.refl (base : Nat) (w : World) : Nb base w w := ⟨rfl, rfl, rfl, Nat.le_refl _, fun _ _ => rfl, fun _ _ h _ => h⟩
theorem Nb.trans (h : Nb base w w1) (h2 : Nb base w1 w2) : Nb base w w2 :=
  ⟨h2.os.trans h.os, h2.tape.trans h.tape, h2.output.trans h.output, Nat.le_trans h.size h2.size, fun k hk => (h2.low k hk).trans (h.low k hk), fun k o hk ho => h2.box k o (h.box k o hk ho) ho⟩
theorem Nb.of_below (h : Below w.heap.size w w1) (hB : base ≤ w.heap.size) : Nb base w w1 :=
  ⟨h.os, h.tape, h.output, h.size, fun k hk => h.block k (by omega), fun k o hk _ => (h.block k (Array.getElem?_eq_some_iff.1 hk).1).trans hk⟩
theorem Nb.of_gb (hg : w.grownBy w1 v.ownBlock) (ho : OwnBs base w v bs) (hB : base ≤ w.heap.size) : Nb base w w1 :=
  ⟨hg.os, hg.tape, hg.output, hg.size, fun k hk => hg.block k (by omega) (fun e => by have := (ho.lt k e.symm).1; omega), fun k o hk hno => (hg.block k (Array.getElem?_eq_some_iff.1 hk).1 (ho.ne hk hno)).trans hk⟩
theorem Nb.below (h : Nb base w w1) : Below base w w1 := ⟨h.os, h.tape, h.output, h.size, h.low⟩
theorem Nb.blk (h : Nb base w w1) {m : Nat} {T : TypeId} {cs : List Value} (hb : Blk w m T cs) (hT : T ≠ 5) : Blk w1 m T cs := h.box m _ hb (fun c f e => by cases e; exact hT rfl)
end
/-- How a call of the document's writer ends. -/
def REnd (base : Nat) (w : World) (r : Res) (e : Ending) (w' : World) : Prop :=
  Nb base w w' ∧ match r with
  | .ok b => b.length ≤ 65536 ∧ ∃ v', e = .returned (.tuple #[v', .int .i64 0]) ∧ OwnBs base w' v' b
  | .error x => x ≠ 0 ∧ e = .returned (.tuple #[.slice none 0 0, .int .i64 x])
section
variable {base : Nat} {w w1 : World} {r : Res} {e : Ending}
theorem REnd.ok {b : List UInt8} {v' : Value} (hr : r = .ok b) (n : Nb base w w1) (hl : b.length ≤ 65536) (h : OwnBs base w1 v' b) : REnd base w r (.returned (.tuple #[v', .int .i64 0])) w1 := by
  rw [hr]; exact ⟨n, hl, v', rfl, h⟩
theorem REnd.bad {x : Int} (hr : r = .error x) (n : Nb base w w1) (hx : x ≠ 0) : REnd base w r (.returned (.tuple #[.slice none 0 0, .int .i64 x])) w1 := by
  rw [hr]; exact ⟨n, hx, rfl⟩
theorem REnd.of_ok {b : List UInt8} (hr : r = .ok b) (h : REnd base w r e w1) : Nb base w w1 ∧ b.length ≤ 65536 ∧ ∃ v', e = .returned (.tuple #[v', .int .i64 0]) ∧ OwnBs base w1 v' b := by rw [hr] at h; exact h
theorem REnd.of_bad {x : Int} (hr : r = .error x) (h : REnd base w r e w1) : Nb base w w1 ∧ x ≠ 0 ∧ e = .returned (.tuple #[.slice none 0 0, .int .i64 x]) := by rw [hr] at h; exact h
theorem REnd.nb (h : REnd base w r e w1) {w0 : World} (n : Nb base w0 w) : REnd base w0 r e w1 := ⟨n.trans h.1, h.2⟩
end
/-- The slice is handed back, unless it is too long. -/
theorem reflong_calls (base : Nat) (v : Value) (b : List UInt8) (w : World) (h : OwnBs base w v b) :
    Calls Tryz.prog 102 #[v] w (REnd base w (lng b)) := by
  obtain ⟨A, n, cap, rfl, hr, hn⟩ := h.form
  by_cases h6 : b.length ≤ 65536
  · have hd : decide ((65536 : Int) < (n : Int)) = false := by have := hn.out; simp; omega
    have HO := Lib.hid (And.intro h h6)
    clear h hn h6
    go_enter Tryz.func102, Tryz.ntmps102
    go_wp2_with fail
    go_ret2
    exact REnd.ok (by unfold lng; rw [if_pos HO.out.2]) (Nb.refl _ _) HO.out.2 HO.out.1
  · have hd : decide ((65536 : Int) < (n : Int)) = true := by have := hn.out; simp; omega
    have HO := Lib.hid h6
    clear h hn h6
    go_enter Tryz.func102, Tryz.ntmps102
    go_wp2_with fail
    go_ret2
    exact REnd.bad (by unfold lng; rw [if_neg HO.out]) (Nb.refl _ _) (by decide)
/-- Bytes behind bytes, if they are not too many. -/
theorem OwnBs.nbx {base : Nat} {w w1 : World} {v : Value} {bs : List UInt8} (h : OwnBs base w v bs) (b : Below w.heap.size w w1) : OwnBs base w1 v bs := h.below b (Nat.le_refl _)
set_option maxHeartbeats 2000000 in
theorem reftext_calls (base : Nat) (v : Value) (b l : List UInt8) (w : World) (h : OwnBs base w v b) (hb : b.length ≤ 65536) (hB : base ≤ w.heap.size) (hl : l.length ≤ 140737488355328) :
    Calls Tryz.prog 104 #[v, .string ⟨l.toArray⟩] w (REnd base w (txt b l)) := by
  by_cases h6 : 65536 < l.length
  · have HR := Lib.hid (show txt b l = .error 3 by unfold txt; rw [if_pos h6])
    have hd1 : decide ((65536 : Int) < (l.length : Int)) = true := by simp; omega
    clear h6 h
    go_enter Tryz.func104, Tryz.ntmps104
    go_wp2_with fail
    go_ret2
    exact REnd.bad HR.out (Nb.refl _ _) (by decide)
  · have hd1 : decide ((65536 : Int) < (l.length : Int)) = false := by simp; omega
    have HQ := refput_calls l w (by omega)
    have hpl := putF_le l
    obtain ⟨q, hq⟩ : ∃ q, putF l = q := ⟨_, rfl⟩
    rw [hq] at hpl
    have hql : q.length ≤ 70368744000000 := by omega
    have HP := Lib.hid h
    have HL := Lib.hid hl
    have H6 := Lib.hid h6
    unfold PutPost at HQ
    rw [hq] at HQ
    clear h hl hpl h6
    cases hv : Lib.validD l with
    | false =>
      have HR := Lib.hid (show txt b l = .error 1 by unfold txt; rw [if_neg H6.out, hv]; rfl)
      rw [hv] at HQ
      clear hq hv
      go_enter Tryz.func104, Tryz.ntmps104
      go_wp2_with fail
      refine HQ.mono ?_
      rintro e w1 ⟨rfl, b1⟩
      go_wp2_with fail
      go_ret2
      exact REnd.bad HR.out (Nb.of_below b1 hB) (by decide)
    | true =>
      have HR := Lib.hid (show txt b l = lng (b ++ q) by unfold txt; rw [if_neg H6.out, hv, if_pos rfl, hq])
      rw [hv] at HQ
      clear hq hv
      cases hr : lng (b ++ q)
      all_goals
        have HR2 := Lib.hid hr
        clear hr
        go_enter Tryz.func104, Tryz.ntmps104
        go_wp2_with fail
        refine HQ.mono ?_
        rintro e w1 ⟨rfl, b1⟩
        have HB1 := Lib.hid b1
        have hB1 : base ≤ w1.heap.size := Nat.le_trans hB b1.size
        clear b1
        go_wp2_with (at_builtin; refine wpList_append_st rfl _ _ rfl base v b rfl (HP.out.nbx HB1.out) q rfl (by omega) hB1 ?_; intro v2 w2 own2 gb2; have n2 := Lib.hid ((Nb.of_below HB1.out hB).trans (Nb.of_gb gb2 (HP.out.nbx HB1.out) hB1)); have own2' := Lib.hid own2; clear own2 gb2)
        refine (reflong_calls base v2 _ _ own2'.out).mono ?_
        intro e w3 hE
        first | (obtain ⟨n3, hx, rfl⟩ := REnd.of_bad HR2.out hE; clear hE; have N3 := Lib.hid n3; clear n3) | (obtain ⟨n3, hl3, v3, rfl, o3⟩ := REnd.of_ok HR2.out hE; clear hE; have N3 := Lib.hid (And.intro n3 o3); clear n3 o3)
        go_wp2_with fail
        go_ret2
      · exact REnd.bad (HR.out.trans HR2.out) (n2.out.trans N3.out) hx
      · exact REnd.ok (HR.out.trans HR2.out) (n2.out.trans N3.out.1) hl3 N3.out.2
end Go.Proofs.YtkbcbikilgcckaaGreatDoor
namespace Go.Proofs.YtkbcbikilgcckaaGreatDoor
open Go.ChangeShapes Go.WideShapes Go.ChangeAt Go.RowKit Go.IntWalk
set_option linter.unusedVariables false
set_option maxRecDepth 100000

set_option maxHeartbeats 4000000 in
theorem refval_bad (kd : Int) (is : Bool) (n : Int) (s : List UInt8) (l m : JT) (deep : Nat) (dI : Int) (base : Nat) (v : Value) (b : List UInt8) (w : World) (A B : Option Addr) (nl cl nm cm : Nat) (hB : base ≤ w.heap.size) (rl : Room nl cl l.ext) (rm : Room nm cm m.ext) (hf : Fit kd n s) (h : OwnBs base w v b) (hb : b.length ≤ 65536) (hT : PowT base w) (hj : (⟨kd, is, n, s, l, m⟩ : Jv).bare = false) :
    Calls Tryz.prog 68 #[v, .agg #[.int .i64 kd, .bool is, .int .i64 n, .string ⟨s.toArray⟩, .slice A nl cl, .slice B nm cm], .int .i64 dI] w (REnd base w (wrV ⟨kd, is, n, s, l, m⟩ deep b)) := by
  have HS := fun w => refbare_calls ⟨kd, is, n, s, l, m⟩ A B nl cl nm cm w rl rm
  have HE := Lib.hid (wrV_bad hj deep b)
  simp only [hj] at HS
  clear rl rm hf hT hj h
  try dsimp only at *
  go_enter Tryz.func68, Tryz.ntmps68
  go_wp2_with fail
  refine (HS _).mono ?_
  rintro e w1 ⟨rfl, b1⟩
  go_wp2_with fail
  go_ret2
  exact REnd.bad HE.out (Nb.of_below (((Below.refl _ _).alloc (Nat.le_refl _) _).trans (b1.mono (by simp))) hB) (by decide)
set_option maxHeartbeats 4000000 in
theorem refval_0 (is : Bool) (n : Int) (s : List UInt8) (l m : JT) (deep : Nat) (dI : Int) (base : Nat) (v : Value) (b : List UInt8) (w : World) (A B : Option Addr) (nl cl nm cm : Nat) (hB : base ≤ w.heap.size) (rl : Room nl cl l.ext) (rm : Room nm cm m.ext) (hf : Fit 0 n s) (h : OwnBs base w v b) (hb : b.length ≤ 65536) (hT : PowT base w) (hj : (⟨0, is, n, s, l, m⟩ : Jv).bare = true) :
    Calls Tryz.prog 68 #[v, .agg #[.int .i64 0, .bool is, .int .i64 n, .string ⟨s.toArray⟩, .slice A nl cl, .slice B nm cm], .int .i64 dI] w (REnd base w (wrV ⟨0, is, n, s, l, m⟩ deep b)) := by
  have HS := fun w => refbare_calls ⟨0, is, n, s, l, m⟩ A B nl cl nm cm w rl rm
  have E0 := Lib.hid (wrV_0 (v := ⟨0, is, n, s, l, m⟩) hj rfl deep b)
  simp only [hj] at HS
  have H := Lib.hid h
  have HX := Lib.hid (And.intro hT hf)
  clear rl rm hf hT hj h
  try dsimp only at *
  have HE := Lib.hid (show wrV ⟨0, is, n, s, l, m⟩ deep b = lng (b ++ [110, 117, 108, 108]) by rw [E0.out])
  clear E0
  cases hr : (lng (b ++ [110, 117, 108, 108]) : Res)
  all_goals
    have HR2 := Lib.hid hr
    clear hr
    go_enter Tryz.func68, Tryz.ntmps68
    go_wp2_with fail
    refine (HS _).mono ?_
    rintro e w1 ⟨rfl, b1⟩
    have hb1 : Below w.heap.size w w1 := ((Below.refl _ _).alloc (Nat.le_refl _) _).trans (b1.mono (by simp))
    have bx := (Blk.new w [.int .i64 0, .bool is, .int .i64 n, .string ⟨s.toArray⟩, .slice A nl cl, .slice B nm cm] 25).later b1
    have d0 := bx.cell (k := 0) rfl
    have d1 := bx.cell (k := 1) rfl
    have d2 := bx.cell (k := 2) rfl
    have d3 := bx.cell (k := 3) rfl
    have d4 := bx.cell (k := 4) rfl
    have d5 := bx.cell (k := 5) rfl
    have HB1 := Lib.hid hb1
    have hB1 : base ≤ w1.heap.size := Nat.le_trans hB hb1.size
    have BX := Lib.hid bx
    clear b1 hb1 bx
    have HO1 := Lib.hid (H.out.nbx HB1.out)
    go_wp2_with (at_builtin; refine wpList_append_st rfl _ _ rfl base v b rfl HO1.out [110, 117, 108, 108] rfl (by simp; omega) hB1 ?_; intro v2 w2 own2 gb2; have n2 := Lib.hid ((Nb.of_below HB1.out hB).trans (Nb.of_gb gb2 HO1.out hB1)); have own2' := Lib.hid own2; clear own2 gb2)
    refine (reflong_calls base v2 _ _ own2'.out).mono ?_
    intro e w3 hE
    first | (obtain ⟨n3, hx, rfl⟩ := REnd.of_bad HR2.out hE; clear hE; have N3 := Lib.hid n3; clear n3) | (obtain ⟨n3, hl3, v3, rfl, o3⟩ := REnd.of_ok HR2.out hE; clear hE; have N3 := Lib.hid (And.intro n3 o3); clear n3 o3)
    go_wp2_with fail
    go_ret2
  · exact REnd.bad (HE.out.trans HR2.out) (n2.out.trans N3.out) hx
  · exact REnd.ok (HE.out.trans HR2.out) (n2.out.trans N3.out.1) hl3 N3.out.2
set_option maxHeartbeats 4000000 in
theorem refval_1true (n : Int) (s : List UInt8) (l m : JT) (deep : Nat) (dI : Int) (base : Nat) (v : Value) (b : List UInt8) (w : World) (A B : Option Addr) (nl cl nm cm : Nat) (hB : base ≤ w.heap.size) (rl : Room nl cl l.ext) (rm : Room nm cm m.ext) (hf : Fit 1 n s) (h : OwnBs base w v b) (hb : b.length ≤ 65536) (hT : PowT base w) (hj : (⟨1, true, n, s, l, m⟩ : Jv).bare = true) :
    Calls Tryz.prog 68 #[v, .agg #[.int .i64 1, .bool true, .int .i64 n, .string ⟨s.toArray⟩, .slice A nl cl, .slice B nm cm], .int .i64 dI] w (REnd base w (wrV ⟨1, true, n, s, l, m⟩ deep b)) := by
  have HS := fun w => refbare_calls ⟨1, true, n, s, l, m⟩ A B nl cl nm cm w rl rm
  have E0 := Lib.hid (wrV_1 (v := ⟨1, true, n, s, l, m⟩) hj rfl deep b)
  simp only [hj] at HS
  have H := Lib.hid h
  have HX := Lib.hid (And.intro hT hf)
  clear rl rm hf hT hj h
  try dsimp only at *
  have HE := Lib.hid (show wrV ⟨1, true, n, s, l, m⟩ deep b = lng (b ++ [116, 114, 117, 101]) by rw [E0.out]; rfl)
  clear E0
  cases hr : (lng (b ++ [116, 114, 117, 101]) : Res)
  all_goals
    have HR2 := Lib.hid hr
    clear hr
    go_enter Tryz.func68, Tryz.ntmps68
    go_wp2_with fail
    refine (HS _).mono ?_
    rintro e w1 ⟨rfl, b1⟩
    have hb1 : Below w.heap.size w w1 := ((Below.refl _ _).alloc (Nat.le_refl _) _).trans (b1.mono (by simp))
    have bx := (Blk.new w [.int .i64 1, .bool true, .int .i64 n, .string ⟨s.toArray⟩, .slice A nl cl, .slice B nm cm] 25).later b1
    have d0 := bx.cell (k := 0) rfl
    have d1 := bx.cell (k := 1) rfl
    have d2 := bx.cell (k := 2) rfl
    have d3 := bx.cell (k := 3) rfl
    have d4 := bx.cell (k := 4) rfl
    have d5 := bx.cell (k := 5) rfl
    have HB1 := Lib.hid hb1
    have hB1 : base ≤ w1.heap.size := Nat.le_trans hB hb1.size
    have BX := Lib.hid bx
    clear b1 hb1 bx
    have HO1 := Lib.hid (H.out.nbx HB1.out)
    go_wp2_with (at_builtin; refine wpList_append_st rfl _ _ rfl base v b rfl HO1.out [116, 114, 117, 101] rfl (by simp; omega) hB1 ?_; intro v2 w2 own2 gb2; have n2 := Lib.hid ((Nb.of_below HB1.out hB).trans (Nb.of_gb gb2 HO1.out hB1)); have own2' := Lib.hid own2; clear own2 gb2)
    refine (reflong_calls base v2 _ _ own2'.out).mono ?_
    intro e w3 hE
    first | (obtain ⟨n3, hx, rfl⟩ := REnd.of_bad HR2.out hE; clear hE; have N3 := Lib.hid n3; clear n3) | (obtain ⟨n3, hl3, v3, rfl, o3⟩ := REnd.of_ok HR2.out hE; clear hE; have N3 := Lib.hid (And.intro n3 o3); clear n3 o3)
    go_wp2_with fail
    go_ret2
  · exact REnd.bad (HE.out.trans HR2.out) (n2.out.trans N3.out) hx
  · exact REnd.ok (HE.out.trans HR2.out) (n2.out.trans N3.out.1) hl3 N3.out.2
set_option maxHeartbeats 4000000 in
theorem refval_1false (n : Int) (s : List UInt8) (l m : JT) (deep : Nat) (dI : Int) (base : Nat) (v : Value) (b : List UInt8) (w : World) (A B : Option Addr) (nl cl nm cm : Nat) (hB : base ≤ w.heap.size) (rl : Room nl cl l.ext) (rm : Room nm cm m.ext) (hf : Fit 1 n s) (h : OwnBs base w v b) (hb : b.length ≤ 65536) (hT : PowT base w) (hj : (⟨1, false, n, s, l, m⟩ : Jv).bare = true) :
    Calls Tryz.prog 68 #[v, .agg #[.int .i64 1, .bool false, .int .i64 n, .string ⟨s.toArray⟩, .slice A nl cl, .slice B nm cm], .int .i64 dI] w (REnd base w (wrV ⟨1, false, n, s, l, m⟩ deep b)) := by
  have HS := fun w => refbare_calls ⟨1, false, n, s, l, m⟩ A B nl cl nm cm w rl rm
  have E0 := Lib.hid (wrV_1 (v := ⟨1, false, n, s, l, m⟩) hj rfl deep b)
  simp only [hj] at HS
  have H := Lib.hid h
  have HX := Lib.hid (And.intro hT hf)
  clear rl rm hf hT hj h
  try dsimp only at *
  have HE := Lib.hid (show wrV ⟨1, false, n, s, l, m⟩ deep b = lng (b ++ [102, 97, 108, 115, 101]) by rw [E0.out]; rfl)
  clear E0
  cases hr : (lng (b ++ [102, 97, 108, 115, 101]) : Res)
  all_goals
    have HR2 := Lib.hid hr
    clear hr
    go_enter Tryz.func68, Tryz.ntmps68
    go_wp2_with fail
    refine (HS _).mono ?_
    rintro e w1 ⟨rfl, b1⟩
    have hb1 : Below w.heap.size w w1 := ((Below.refl _ _).alloc (Nat.le_refl _) _).trans (b1.mono (by simp))
    have bx := (Blk.new w [.int .i64 1, .bool false, .int .i64 n, .string ⟨s.toArray⟩, .slice A nl cl, .slice B nm cm] 25).later b1
    have d0 := bx.cell (k := 0) rfl
    have d1 := bx.cell (k := 1) rfl
    have d2 := bx.cell (k := 2) rfl
    have d3 := bx.cell (k := 3) rfl
    have d4 := bx.cell (k := 4) rfl
    have d5 := bx.cell (k := 5) rfl
    have HB1 := Lib.hid hb1
    have hB1 : base ≤ w1.heap.size := Nat.le_trans hB hb1.size
    have BX := Lib.hid bx
    clear b1 hb1 bx
    have HO1 := Lib.hid (H.out.nbx HB1.out)
    go_wp2_with (at_builtin; refine wpList_append_st rfl _ _ rfl base v b rfl HO1.out [102, 97, 108, 115, 101] rfl (by simp; omega) hB1 ?_; intro v2 w2 own2 gb2; have n2 := Lib.hid ((Nb.of_below HB1.out hB).trans (Nb.of_gb gb2 HO1.out hB1)); have own2' := Lib.hid own2; clear own2 gb2)
    refine (reflong_calls base v2 _ _ own2'.out).mono ?_
    intro e w3 hE
    first | (obtain ⟨n3, hx, rfl⟩ := REnd.of_bad HR2.out hE; clear hE; have N3 := Lib.hid n3; clear n3) | (obtain ⟨n3, hl3, v3, rfl, o3⟩ := REnd.of_ok HR2.out hE; clear hE; have N3 := Lib.hid (And.intro n3 o3); clear n3 o3)
    go_wp2_with fail
    go_ret2
  · exact REnd.bad (HE.out.trans HR2.out) (n2.out.trans N3.out) hx
  · exact REnd.ok (HE.out.trans HR2.out) (n2.out.trans N3.out.1) hl3 N3.out.2
set_option maxHeartbeats 4000000 in
theorem refval_2 (is : Bool) (n : Int) (s : List UInt8) (l m : JT) (deep : Nat) (dI : Int) (base : Nat) (v : Value) (b : List UInt8) (w : World) (A B : Option Addr) (nl cl nm cm : Nat) (hB : base ≤ w.heap.size) (rl : Room nl cl l.ext) (rm : Room nm cm m.ext) (hf : Fit 2 n s) (h : OwnBs base w v b) (hb : b.length ≤ 65536) (hT : PowT base w) (hj : (⟨2, is, n, s, l, m⟩ : Jv).bare = true) :
    Calls Tryz.prog 68 #[v, .agg #[.int .i64 2, .bool is, .int .i64 n, .string ⟨s.toArray⟩, .slice A nl cl, .slice B nm cm], .int .i64 dI] w (REnd base w (wrV ⟨2, is, n, s, l, m⟩ deep b)) := by
  have HS := fun w => refbare_calls ⟨2, is, n, s, l, m⟩ A B nl cl nm cm w rl rm
  have E0 := Lib.hid (wrV_2 (v := ⟨2, is, n, s, l, m⟩) hj rfl deep b)
  simp only [hj] at HS
  have H := Lib.hid h
  have HX := Lib.hid (And.intro hT hf)
  clear rl rm hf hT hj h
  try dsimp only at *
  have HE := Lib.hid (show wrV ⟨2, is, n, s, l, m⟩ deep b = lng (b ++ Lib.itoa n) by rw [E0.out])
  clear E0
  cases hr : (lng (b ++ Lib.itoa n) : Res)
  all_goals
    have HR2 := Lib.hid hr
    clear hr
    go_enter Tryz.func68, Tryz.ntmps68
    go_wp2_with fail
    refine (HS _).mono ?_
    rintro e w1 ⟨rfl, b1⟩
    have hb1 : Below w.heap.size w w1 := ((Below.refl _ _).alloc (Nat.le_refl _) _).trans (b1.mono (by simp))
    have bx := (Blk.new w [.int .i64 2, .bool is, .int .i64 n, .string ⟨s.toArray⟩, .slice A nl cl, .slice B nm cm] 25).later b1
    have d0 := bx.cell (k := 0) rfl
    have d1 := bx.cell (k := 1) rfl
    have d2 := bx.cell (k := 2) rfl
    have d3 := bx.cell (k := 3) rfl
    have d4 := bx.cell (k := 4) rfl
    have d5 := bx.cell (k := 5) rfl
    have HB1 := Lib.hid hb1
    have hB1 : base ≤ w1.heap.size := Nat.le_trans hB hb1.size
    have BX := Lib.hid bx
    clear b1 hb1 bx
    have HO1 := Lib.hid (H.out.nbx HB1.out)
    go_wp2_with fail
    refine (itoa_calls base n HX.out.2.2.1.1 HX.out.2.2.1.2 _ (HX.out.1.blw (HB1.out.mono hB))).mono ?_
    rintro e w2 ⟨rfl, b2⟩
    have HB2 := Lib.hid (HB1.out.trans (b2.mono HB1.out.size))
    have hB2 : base ≤ w2.heap.size := Nat.le_trans hB1 b2.size
    have HO2 := Lib.hid (H.out.nbx HB2.out)
    have hil := itoa_le n HX.out.2.2.1.1 HX.out.2.2.1.2
    clear b2
    go_wp2_with (at_builtin; refine wpList_append_st rfl _ _ rfl base v b rfl HO2.out (Lib.itoa n) rfl (by omega) hB2 ?_; intro v2 w9 own2 gb2; have n2 := Lib.hid ((Nb.of_below HB2.out hB).trans (Nb.of_gb gb2 HO2.out hB2)); have own2' := Lib.hid own2; clear own2 gb2)
    refine (reflong_calls base v2 _ _ own2'.out).mono ?_
    intro e w3 hE
    first | (obtain ⟨n3, hx, rfl⟩ := REnd.of_bad HR2.out hE; clear hE; have N3 := Lib.hid n3; clear n3) | (obtain ⟨n3, hl3, v3, rfl, o3⟩ := REnd.of_ok HR2.out hE; clear hE; have N3 := Lib.hid (And.intro n3 o3); clear n3 o3)
    go_wp2_with fail
    go_ret2
  · exact REnd.bad (HE.out.trans HR2.out) (n2.out.trans N3.out) hx
  · exact REnd.ok (HE.out.trans HR2.out) (n2.out.trans N3.out.1) hl3 N3.out.2
set_option maxHeartbeats 4000000 in
theorem refval_3 (is : Bool) (n : Int) (s : List UInt8) (l m : JT) (deep : Nat) (dI : Int) (base : Nat) (v : Value) (b : List UInt8) (w : World) (A B : Option Addr) (nl cl nm cm : Nat) (hB : base ≤ w.heap.size) (rl : Room nl cl l.ext) (rm : Room nm cm m.ext) (hf : Fit 3 n s) (h : OwnBs base w v b) (hb : b.length ≤ 65536) (hT : PowT base w) (hj : (⟨3, is, n, s, l, m⟩ : Jv).bare = true) :
    Calls Tryz.prog 68 #[v, .agg #[.int .i64 3, .bool is, .int .i64 n, .string ⟨s.toArray⟩, .slice A nl cl, .slice B nm cm], .int .i64 dI] w (REnd base w (wrV ⟨3, is, n, s, l, m⟩ deep b)) := by
  have HS := fun w => refbare_calls ⟨3, is, n, s, l, m⟩ A B nl cl nm cm w rl rm
  have E0 := Lib.hid (wrV_3 (v := ⟨3, is, n, s, l, m⟩) hj rfl deep b)
  simp only [hj] at HS
  have H := Lib.hid h
  have HX := Lib.hid (And.intro hT hf)
  clear rl rm hf hT hj h
  try dsimp only at *
  have HE := Lib.hid (show wrV ⟨3, is, n, s, l, m⟩ deep b = txt b s by rw [E0.out])
  clear E0
  cases hr : (txt b s : Res)
  all_goals
    have HR2 := Lib.hid hr
    clear hr
    go_enter Tryz.func68, Tryz.ntmps68
    go_wp2_with fail
    refine (HS _).mono ?_
    rintro e w1 ⟨rfl, b1⟩
    have hb1 : Below w.heap.size w w1 := ((Below.refl _ _).alloc (Nat.le_refl _) _).trans (b1.mono (by simp))
    have bx := (Blk.new w [.int .i64 3, .bool is, .int .i64 n, .string ⟨s.toArray⟩, .slice A nl cl, .slice B nm cm] 25).later b1
    have d0 := bx.cell (k := 0) rfl
    have d1 := bx.cell (k := 1) rfl
    have d2 := bx.cell (k := 2) rfl
    have d3 := bx.cell (k := 3) rfl
    have d4 := bx.cell (k := 4) rfl
    have d5 := bx.cell (k := 5) rfl
    have HB1 := Lib.hid hb1
    have hB1 : base ≤ w1.heap.size := Nat.le_trans hB hb1.size
    have BX := Lib.hid bx
    clear b1 hb1 bx
    have HO1 := Lib.hid (H.out.nbx HB1.out)
    go_wp2_with fail
    refine (reftext_calls base v b s _ HO1.out hb hB1 HX.out.2.2.2).mono ?_
    intro e w3 hE
    first | (obtain ⟨n3, hx, rfl⟩ := REnd.of_bad HR2.out hE; clear hE; have N3 := Lib.hid n3; clear n3) | (obtain ⟨n3, hl3, v3, rfl, o3⟩ := REnd.of_ok HR2.out hE; clear hE; have N3 := Lib.hid (And.intro n3 o3); clear n3 o3)
    go_wp2_with fail
    go_ret2
  · exact REnd.bad (HE.out.trans HR2.out) ((Nb.of_below HB1.out hB).trans N3.out) hx
  · exact REnd.ok (HE.out.trans HR2.out) ((Nb.of_below HB1.out hB).trans N3.out.1) hl3 N3.out.2
end Go.Proofs.YtkbcbikilgcckaaGreatDoor
namespace Go.Proofs.YtkbcbikilgcckaaGreatDoor
open Go.ChangeShapes Go.WideShapes Go.ChangeAt Go.RowKit Go.IntWalk
set_option linter.unusedVariables false
set_option maxRecDepth 100000

/-- What is to be proved of values of at most N parts. -/
def RefC (N : Nat) : Prop := ∀ (jv : Jv) (deep : Nat) (dI : Int) (base : Nat) (v : Value) (b : List UInt8) (w : World) (A B : Option Addr) (nl cl nm cm : Nat), jv.bulk ≤ N → deep ≤ 32 → dI = (deep : Int) → base ≤ w.heap.size →
  Room nl cl jv.l.ext → Room nm cm jv.m.ext → JSl (· < base) w false A jv.l → JSl (· < base) w true B jv.m → Fit jv.kd jv.n jv.s → OwnBs base w v b → b.length ≤ 65536 → PowT base w →
  Calls Tryz.prog 68 #[v, .agg #[.int .i64 jv.kd, .bool jv.is, .int .i64 jv.n, .string ⟨jv.s.toArray⟩, .slice A nl cl, .slice B nm cm], .int .i64 dI] w (REnd base w (wrV jv deep b))
/-- Where the loop stands: bytes so far, or an error. -/
def QStep (R : Res) (mem : Bool) (t : JT) (deep k : Nat) (base : Nat) (w0 wr : World) (bv ev : Value) : Prop :=
  Nb base w0 wr ∧ ((∃ bk, R = wrF mem (t.fall k) deep (prevK t k) bk ∧ ev = .int .i64 0 ∧ OwnBs base wr bv bk ∧ bk.length ≤ 65536) ∨ (∃ x, x ≠ 0 ∧ R = .error x ∧ ev = .int .i64 x))
theorem fits_len (b : List UInt8) (x : UInt8) (h : b.length ≤ 65536) : b.length ≤ 70368744177664 := by omega
set_option maxHeartbeats 16000000 in
theorem refval_4 (N : Nat) (IH : RefC N) (is : Bool) (n : Int) (s : List UInt8) (l m : JT) (deep : Nat) (base : Nat) (v : Value) (b : List UInt8) (w : World) (A B : Option Addr) (nl cl nm cm : Nat) (hB : base ≤ w.heap.size) (rl : Room nl cl l.ext) (rm : Room nm cm m.ext) (h : OwnBs base w v b) (hb : b.length ≤ 65536) (hT : PowT base w) (hN : l.bulk ≤ N) (hd : deep ≤ 32) (sl : JSl (· < base) w false A l) (hj : (⟨4, is, n, s, l, m⟩ : Jv).bare = true) :
    Calls Tryz.prog 68 #[v, .agg #[.int .i64 4, .bool is, .int .i64 n, .string ⟨s.toArray⟩, .slice A nl cl, .slice B nm cm], .int .i64 (deep : Int)] w (REnd base w (wrV ⟨4, is, n, s, l, m⟩ deep b)) := by
  have HS := fun w => refbare_calls ⟨4, is, n, s, l, m⟩ A B nl cl nm cm w rl rm
  have E0 := Lib.hid (wrV_4 (v := ⟨4, is, n, s, l, m⟩) hj rfl deep b)
  simp only [hj] at HS
  have H := Lib.hid h
  have HX := Lib.hid hT
  have HSL := Lib.hid sl
  obtain ⟨rfl, hnc, hcm⟩ := rl
  obtain ⟨mm, hmm⟩ : ∃ mm, l.ext = mm := ⟨_, rfl⟩
  have HM := Lib.hid hmm
  rw [hmm] at hnc hcm
  simp only [hmm] at HS ⊢
  clear rm hT hj h sl hmm
  try dsimp only at *
  by_cases hdd : 32 ≤ deep
  · have hd32 : deep = 32 := by omega
    have hdq : ((deep : Int) == 32) = true := by rw [hd32]; rfl
    have HE := Lib.hid (show wrV ⟨4, is, n, s, l, m⟩ deep b = .error 5 by rw [E0.out]; unfold wrL; rw [if_pos hdd]; rfl)
    clear E0 hd32 hdd
    go_enter Tryz.func68, Tryz.ntmps68
    go_wp2_with fail
    refine (HS _).mono ?_
    rintro e w1 ⟨rfl, b1⟩
    have hb1 : Below w.heap.size w w1 := ((Below.refl _ _).alloc (Nat.le_refl _) _).trans (b1.mono (by simp))
    have bx := (Blk.new w [.int .i64 4, .bool is, .int .i64 n, .string ⟨s.toArray⟩, .slice A mm cl, .slice B nm cm] 25).later b1
    have d0 := bx.cell (k := 0) rfl
    have d1 := bx.cell (k := 1) rfl
    have d2 := bx.cell (k := 2) rfl
    have d3 := bx.cell (k := 3) rfl
    have d4 := bx.cell (k := 4) rfl
    have d5 := bx.cell (k := 5) rfl
    have HB1 := Lib.hid hb1
    have hB1 : base ≤ w1.heap.size := Nat.le_trans hB hb1.size
    have BX := Lib.hid bx
    clear b1 hb1 bx
    have HO1 := Lib.hid (H.out.nbx HB1.out)
    go_wp2_with fail
    go_ret2
    exact REnd.bad HE.out (Nb.of_below HB1.out hB) (by decide)
  · have hdq : ((deep : Int) == 32) = false := by rw [beq_eq_false_iff_ne]; omega
    have HE0 := Lib.hid (show wrV ⟨4, is, n, s, l, m⟩ deep b = (lng (b ++ [91])).then fun b => (wrF false l (deep + 1) none b).then fun b => lng (b ++ [93]) by rw [E0.out]; unfold wrL; rw [if_neg hdd])
    clear E0
    -- the bracket
    obtain ⟨R0, hR0⟩ : ∃ R0, lng (b ++ [91]) = R0 := ⟨_, rfl⟩
    have HR0 := Lib.hid hR0
    clear hR0
    go_enter Tryz.func68, Tryz.ntmps68
    go_wp2_with fail
    refine (HS _).mono ?_
    rintro e w1 ⟨rfl, b1⟩
    have hb1 : Below w.heap.size w w1 := ((Below.refl _ _).alloc (Nat.le_refl _) _).trans (b1.mono (by simp))
    have bx := (Blk.new w [.int .i64 4, .bool is, .int .i64 n, .string ⟨s.toArray⟩, .slice A mm cl, .slice B nm cm] 25).later b1
    have d0 := bx.cell (k := 0) rfl
    have d1 := bx.cell (k := 1) rfl
    have d2 := bx.cell (k := 2) rfl
    have d3 := bx.cell (k := 3) rfl
    have d4 := bx.cell (k := 4) rfl
    have d5 := bx.cell (k := 5) rfl
    have HB1 := Lib.hid hb1
    have hB1 : base ≤ w1.heap.size := Nat.le_trans hB hb1.size
    have BX := Lib.hid bx
    clear b1 hb1 bx
    have HO1 := Lib.hid (H.out.nbx HB1.out)
    have NB1 := Lib.hid (Nb.of_below HB1.out hB)
    go_wp2_with (at_builtin; refine wpList_append_u8 rfl _ _ rfl base v b rfl HO1.out 91 (by rfl) rfl (by omega) hB1 ?_; intro va wa owna gba; have NA := Lib.hid ((Lib.hid (Nb.refl base w1)).out.trans (Nb.of_gb gba HO1.out hB1)); have HA := Lib.hid owna; clear owna gba)
    refine (reflong_calls base va _ _ HA.out).mono ?_
    intro e w3 hE
    -- how it ended
    obtain ⟨vb, ve, rfl, n13, hq⟩ : ∃ vb ve, e = .returned (.tuple #[vb, .int .i64 ve]) ∧ Nb base wa w3 ∧ ∃ R : Res, wrV ⟨4, is, n, s, l, m⟩ deep b = (R.then fun b => lng (b ++ [93])) ∧ QStep R false l (deep + 1) 0 base w w3 vb (.int .i64 ve) := by
      cases hr : lng (b ++ [91]) with
      | ok b1 =>
        obtain ⟨n3, hl3, v3, rfl, o3⟩ := REnd.of_ok hr hE
        exact ⟨v3, 0, rfl, n3, _, by rw [HE0.out, hr]; rfl, (NB1.out.trans NA.out).trans n3, .inl ⟨b1, by rw [JT.fall_zero]; rfl, rfl, o3, hl3⟩⟩
      | error x =>
        obtain ⟨n3, hx, rfl⟩ := REnd.of_bad hr hE
        exact ⟨_, x, rfl, n3, .error x, by rw [HE0.out, hr]; rfl, (NB1.out.trans NA.out).trans n3, .inr ⟨x, hx, rfl, rfl⟩⟩
    obtain ⟨R, hRe, hQ⟩ := hq
    have BX3 := Lib.hid ((NA.out.trans n13).blk BX.out (by decide))
    have HQ := Lib.hid hQ
    have HRE := Lib.hid hRe
    clear hE hQ hRe HE0 n13
    go_wp2_with fail
    clear d0 d1 d2 d3 d4 d5
    go_loopw [8, 9, 10] (fun bv ev iv wr => ∃ (k : Nat) (xe : Int), k ≤ mm ∧ iv = .int .i64 (k : Int) ∧ ev = .int .i64 xe ∧ Hid (QStep R false l (deep + 1) k base w wr bv (.int .i64 xe)) ∧ Hid (Blk wr w.heap.size 25 [.int .i64 4, .bool is, .int .i64 n, .string ⟨s.toArray⟩, .slice A mm cl, .slice B nm cm])) (fun _ _ iv _ => mm - (intOf iv).toNat)
    case atStart => exact ⟨0, ve, Nat.zero_le _, rfl, rfl, HQ, BX3⟩
    case round =>
      obtain ⟨k, xe, hk, rfl, rfl, hQk, hBk⟩ := hrel
      clear HQ BX3
      have d0 := hBk.out.cell (k := 0) rfl; have d1 := hBk.out.cell (k := 1) rfl; have d2 := hBk.out.cell (k := 2) rfl; have d3 := hBk.out.cell (k := 3) rfl; have d4 := hBk.out.cell (k := 4) rfl; have d5 := hBk.out.cell (k := 5) rfl
      obtain ⟨nq, hq⟩ := hQk.out
      have NQ := Lib.hid nq
      clear nq hQk
      rcases hq with ⟨bk, hR, he, ho, hbk⟩ | ⟨x, hx, hR, he⟩
      · injection he with _ he
        subst he
        have HO := Lib.hid ho
        have hBr : base ≤ wr.heap.size := Nat.le_trans hB NQ.out.size
        clear ho
        by_cases hlt : k < mm
        · have HLS := Lib.hid (show R = (wrK false (prevK l k) (l.fall k).key bk).then fun b => (wrV (l.fall k).val (deep + 1) b).then fun b => wrF false (l.fall (k + 1)) (deep + 1) (prevK l (k + 1)) b by rw [hR, wrF_step _ _ _ _ _ (by rw [HM.out]; exact hlt)])
          obtain ⟨eu, hev⟩ : ∃ eu, (l.fall k).val = eu := ⟨_, rfl⟩
          rw [hev] at HLS
          have hbe : eu.bulk ≤ N := by rw [← hev]; exact Nat.le_trans (JT.bulk_val l k (by rw [HM.out]; exact hlt)) hN
          have HEV := Lib.hid hev
          clear hR hev
          by_cases hk0 : 0 < k
          · have hk1 : decide (0 < k) = true := by simpa using hk0
            have HLS1 := Lib.hid (show R = (lng (bk ++ [44])).then fun b => (wrV eu (deep + 1) b).then fun b => wrF false (l.fall (k + 1)) (deep + 1) (prevK l (k + 1)) b by rw [HLS.out, prevK_pos hk0, wrK_lS])
            clear hk0
            go_wp2_with (at_builtin; refine wpList_append_u8 rfl _ _ rfl base _ bk rfl HO.out 44 (by rfl) rfl (by omega) hBr ?_; intro va wa owna gba; have NA := Lib.hid ((Lib.hid (Nb.refl base wr)).out.trans (Nb.of_gb gba HO.out hBr)); have HA := Lib.hid owna; clear owna gba)
            refine (reflong_calls base va _ _ HA.out).mono ?_
            intro e w5 hE
            cases hr : lng (bk ++ [44]) with
            | error x =>
              obtain ⟨n5, hx, rfl⟩ := REnd.of_bad hr hE
              have HB5 := Lib.hid ((NA.out.trans n5).blk hBk.out (by decide))
              have HQ5 := Lib.hid (show QStep R false l (deep + 1) (k + 1) base w w5 (.slice none 0 0) (.int .i64 x) from ⟨(NQ.out.trans NA.out).trans n5, .inr ⟨x, hx, by rw [HLS1.out, hr]; rfl, rfl⟩⟩)
              have hx1 : (x == 0) = false := by rw [beq_eq_false_iff_ne]; exact hx
              clear hE hr n5 hx
              go_wp2_with fail
              go_roundw
              case rel => exact ⟨k + 1, x, by omega, by go_num, rfl, HQ5, HB5⟩
              case measure => simp [intOf]; omega
            | ok b2 =>
              obtain ⟨n5, hl2, v2, rfl, o5⟩ := REnd.of_ok hr hE
              have HB5 := Lib.hid ((NA.out.trans n5).blk hBk.out (by decide))
              have N5 := Lib.hid ((NQ.out.trans NA.out).trans n5)
              have O5 := Lib.hid o5
              have HLS2 := Lib.hid (show R = (wrV eu (deep + 1) b2).then fun b => wrF false (l.fall (k + 1)) (deep + 1) (prevK l (k + 1)) b by rw [HLS1.out, hr]; rfl)
              clear hE hr n5 o5
              clear d0 d1 d2 d3 d4 d5; have d0 := HB5.out.cell (k := 0) rfl; have d1 := HB5.out.cell (k := 1) rfl; have d2 := HB5.out.cell (k := 2) rfl; have d3 := HB5.out.cell (k := 3) rfl; have d4 := HB5.out.cell (k := 4) rfl; have d5 := HB5.out.cell (k := 5) rfl
              obtain ⟨eb, eo, eA, enl, ecl, eB, enm, ecm, rfl, eP, ebl, e0, e1, e2, e3, e4, e5, r1, r2, s1, s2, hf⟩ := (HSL.out.blw N5.out.below).el _ (by rw [HM.out]; exact hlt)
              rw [HEV.out] at e0 e1 e2 e3 r1 r2 s1 s2 hf
              have HV := IH eu (deep + 1) ((deep : Int) + 1) base v2 b2 w5 eA eB enl ecl enm ecm hbe (by omega) (by omega) (Nat.le_trans hB N5.out.size) r1 r2 s1 s2 hf O5.out hl2 (HX.out.blw N5.out.below)
              clear r1 r2 s1 s2 hf
              go_wp2_with fail
              refine HV.mono ?_
              intro e w7 hE
              clear e0 e1 e2 e3 e4 e5 HV
              cases hr : wrV eu (deep + 1) b2 with
              | error x =>
                obtain ⟨n7, hx, rfl⟩ := REnd.of_bad hr hE
                have HB7 := Lib.hid (n7.blk HB5.out (by decide))
                have HQ7 := Lib.hid (show QStep R false l (deep + 1) (k + 1) base w w7 (.slice none 0 0) (.int .i64 x) from ⟨N5.out.trans n7, .inr ⟨x, hx, by rw [HLS2.out, hr]; rfl, rfl⟩⟩)
                clear hE hr n7 hx
                go_wp2_with fail
                go_roundw
                case rel => exact ⟨k + 1, x, by omega, by go_num, rfl, HQ7, HB7⟩
                case measure => simp [intOf]; omega
              | ok b7 =>
                obtain ⟨n7, hl7, v7, rfl, o7⟩ := REnd.of_ok hr hE
                have HB7 := Lib.hid (n7.blk HB5.out (by decide))
                have HQ7 := Lib.hid (show QStep R false l (deep + 1) (k + 1) base w w7 v7 (.int .i64 0) from ⟨N5.out.trans n7, .inl ⟨b7, by rw [HLS2.out, hr]; rfl, rfl, o7, hl7⟩⟩)
                clear hE hr n7 hl7 o7
                go_wp2_with fail
                go_roundw
                case rel => exact ⟨k + 1, 0, by omega, by go_num, rfl, HQ7, HB7⟩
                case measure => simp [intOf]; omega
          · have hk1 : decide (0 < k) = false := by simpa using hk0
            have HLS2 := Lib.hid (show R = (wrV eu (deep + 1) bk).then fun b => wrF false (l.fall (k + 1)) (deep + 1) (prevK l (k + 1)) b by rw [HLS.out, show prevK l k = none by unfold prevK; rw [if_pos (by omega)]]; rfl)
            clear hk0
            obtain ⟨eb, eo, eA, enl, ecl, eB, enm, ecm, rfl, eP, ebl, e0, e1, e2, e3, e4, e5, r1, r2, s1, s2, hf⟩ := (HSL.out.blw NQ.out.below).el _ (by rw [HM.out]; exact hlt)
            rw [HEV.out] at e0 e1 e2 e3 r1 r2 s1 s2 hf
            have HV := IH eu (deep + 1) ((deep : Int) + 1) base _ bk wr eA eB enl ecl enm ecm hbe (by omega) (by omega) (Nat.le_trans hB NQ.out.size) r1 r2 s1 s2 hf HO.out hbk (HX.out.blw NQ.out.below)
            clear r1 r2 s1 s2 hf
            go_wp2_with fail
            refine HV.mono ?_
            intro e w7 hE
            clear e0 e1 e2 e3 e4 e5 HV
            cases hr : wrV eu (deep + 1) bk with
            | error x =>
              obtain ⟨n7, hx, rfl⟩ := REnd.of_bad hr hE
              have HB7 := Lib.hid (n7.blk hBk.out (by decide))
              have HQ7 := Lib.hid (show QStep R false l (deep + 1) (k + 1) base w w7 (.slice none 0 0) (.int .i64 x) from ⟨NQ.out.trans n7, .inr ⟨x, hx, by rw [HLS2.out, hr]; rfl, rfl⟩⟩)
              clear hE hr n7 hx
              go_wp2_with fail
              go_roundw
              case rel => exact ⟨k + 1, x, by omega, by go_num, rfl, HQ7, HB7⟩
              case measure => simp [intOf]; omega
            | ok b7 =>
              obtain ⟨n7, hl7, v7, rfl, o7⟩ := REnd.of_ok hr hE
              have HB7 := Lib.hid (n7.blk hBk.out (by decide))
              have HQ7 := Lib.hid (show QStep R false l (deep + 1) (k + 1) base w w7 v7 (.int .i64 0) from ⟨NQ.out.trans n7, .inl ⟨b7, by rw [HLS2.out, hr]; rfl, rfl, o7, hl7⟩⟩)
              clear hE hr n7 hl7 o7
              go_wp2_with fail
              go_roundw
              case rel => exact ⟨k + 1, 0, by omega, by go_num, rfl, HQ7, HB7⟩
              case measure => simp [intOf]; omega
        · obtain rfl : k = mm := by omega
          have HRE2 := Lib.hid (show wrV ⟨4, is, n, s, l, m⟩ deep b = lng (bk ++ [93]) by rw [HRE.out, hR, ← HM.out, wrF_end]; rfl)
          clear hR
          go_wp2_with (at_builtin; refine wpList_append_u8 rfl _ _ rfl base _ bk rfl HO.out 93 (by rfl) rfl (by omega) hBr ?_; intro va wa owna gba; have NA := Lib.hid ((Lib.hid (Nb.refl base wr)).out.trans (Nb.of_gb gba HO.out hBr)); have HA := Lib.hid owna; clear owna gba)
          refine (reflong_calls base va _ _ HA.out).mono ?_
          intro e w5 hE
          cases hr : lng (bk ++ [93]) with
          | error x =>
            obtain ⟨n5, hx, rfl⟩ := REnd.of_bad hr hE
            have HF := Lib.hid (And.intro (HRE2.out.trans hr) (And.intro ((NQ.out.trans NA.out).trans n5) hx))
            clear hE hr n5 hx
            go_wp2_with fail
            go_ret2
            exact REnd.bad HF.out.1 HF.out.2.1 HF.out.2.2
          | ok b2 =>
            obtain ⟨n5, hl2, v2, rfl, o5⟩ := REnd.of_ok hr hE
            have HF := Lib.hid (And.intro (HRE2.out.trans hr) (And.intro ((NQ.out.trans NA.out).trans n5) (And.intro hl2 o5)))
            clear hE hr n5 hl2 o5
            go_wp2_with fail
            go_ret2
            exact REnd.ok HF.out.1 HF.out.2.1 HF.out.2.2.1 HF.out.2.2.2
      · injection he with _ he
        subst he
        have HF := Lib.hid (show wrV ⟨4, is, n, s, l, m⟩ deep b = .error xe by rw [HRE.out, hR]; rfl)
        have hx1 : (xe == 0) = false := by rw [beq_eq_false_iff_ne]; exact hx
        have hx2 : (xe != 0) = true := by rw [bne_iff_ne]; exact hx
        have HXX := Lib.hid hx
        clear hR hx
        by_cases hlt : k < mm
        all_goals
          go_wp2_with fail
          go_ret2
          exact REnd.bad HF.out NQ.out HXX.out
end Go.Proofs.YtkbcbikilgcckaaGreatDoor
