/- Layer 9: the document's writer: bytes behind bytes, texts. -/
import Derived.Test.YtajkgcmopmpihaaDoorJvY
import Derived.Test.YtajkgcmopmpihaaDoorQuO
import Derived.Lib.AppendStr
namespace Go.Proofs.YtajkgcmopmpihaaDoor
open Go.ChangeShapes Go.WideShapes Go.ChangeAt Go.RowKit Go.IntWalk
set_option linter.unusedVariables false

theorem wpList_append_st {ops : Array Oper} {rest : List Oper} {o : Oper} {a : Act} {Q : Exit → Act → World → Prop} {w : World} (hgd : o.guard = none) (s x : Operand)
    (ho : o.op = .call { callee := .builtin .append, args := #[s, x], argTypes := #[33, 9] })
    (base : Nat) (v : Value) (bs : List UInt8) (hs : a.eval s = v) (hown : OwnBs base w v bs) (l : List UInt8) (hx : a.eval x = .string ⟨l.toArray⟩) (hlen : bs.length + l.length ≤ 70368744177664) (hbase : base ≤ w.heap.size)
    (h : ∀ v' w', OwnBs base w' v' (bs ++ l) → w.grownBy w' v.ownBlock → wpList Tryd.prog ops Q rest (a.put o.dst v') w') :
    wpList Tryd.prog ops Q (o :: rest) a w := by
  obtain ⟨i0, hi, hz0, hz1, hz2⟩ := info_parts infoU8
  refine Lib.wpList_append_own_string w hgd s x 33 9 ho base 5 i0 Tryd.underlying33 Tryd.underlying9 hi hz0 hz1 hz2 v _ _ hs hown ⟨l.toArray⟩ hx (by unfold maxLen; show _ + l.length ≤ _; omega) (by show _ + l.length ≤ _; omega) hbase ?_
  intro v' w' h1 h2 _
  refine h v' w' ?_ h2
  unfold OwnBs
  rw [List.length_append, List.map_append]
  exact h1
/-- What a call that puts bytes behind bytes of one's own leaves: all below base, and all that isn't bytes. -/
structure Nb (base : Nat) (w w' : World) : Prop where
  os : w'.os = w.os
  tape : w'.tape = w.tape
  output : w'.output = w.output
  size : w.heap.size ≤ w'.heap.size
  low : ∀ k, k < base → w'.heap[k]? = w.heap[k]?
  box : ∀ (k : Nat) (o : Obj), w.heap[k]? = some o → (∀ c f, o ≠ .cells c 5 f) → w'.heap[k]? = some o
section
variable {base : Nat} {w w1 w2 : World} {v : Value} {bs : List UInt8}
theorem Nb.refl (base : Nat) (w : World) : Nb base w w := ⟨rfl, rfl, rfl, Nat.le_refl _, fun _ _ => rfl, fun _ _ h _ => h⟩
theorem Nb.trans (h : Nb base w w1) (h2 : Nb base w1 w2) : Nb base w w2 :=
  ⟨h2.os.trans h.os, h2.tape.trans h.tape, h2.output.trans h.output, Nat.le_trans h.size h2.size, fun k hk => (h2.low k hk).trans (h.low k hk), fun k o hk ho => h2.box k o (h.box k o hk ho) ho⟩
theorem Nb.of_below (h : Below w.heap.size w w1) (hB : base ≤ w.heap.size) : Nb base w w1 :=
  ⟨h.os, h.tape, h.output, h.size, fun k hk => h.block k (by omega), fun k o hk _ => (h.block k (Array.getElem?_eq_some_iff.1 hk).1).trans hk⟩
theorem Nb.of_gb (hg : w.grownBy w1 v.ownBlock) (ho : OwnBs base w v bs) (hB : base ≤ w.heap.size) : Nb base w w1 :=
  ⟨hg.os, hg.tape, hg.output, hg.size, fun k hk => hg.block k (by omega) (fun e => by have := (ho.lt k e.symm).1; omega), fun k o hk hno => (hg.block k (Array.getElem?_eq_some_iff.1 hk).1 (ho.ne hk hno)).trans hk⟩
theorem Nb.below (h : Nb base w w1) : Below base w w1 := ⟨h.os, h.tape, h.output, h.size, h.low⟩
theorem Nb.blk (h : Nb base w w1) {m : Nat} {T : TypeId} {cs : List Value} (hb : Blk w m T cs) (hT : T ≠ 5) : Blk w1 m T cs := h.box m _ hb (fun c f e => by cases e; exact hT rfl)
end
/-- How a call of the document's writer ends. -/
def REnd (base : Nat) (w : World) (r : Res) (e : Ending) (w' : World) : Prop :=
  Nb base w w' ∧ match r with
  | .ok b => b.length ≤ 65536 ∧ ∃ v', e = .returned (.tuple #[v', .int .i64 0]) ∧ OwnBs base w' v' b
  | .error x => x ≠ 0 ∧ e = .returned (.tuple #[.slice none 0 0, .int .i64 x])
section
variable {base : Nat} {w w1 : World} {r : Res} {e : Ending}
theorem REnd.ok {b : List UInt8} {v' : Value} (hr : r = .ok b) (n : Nb base w w1) (hl : b.length ≤ 65536) (h : OwnBs base w1 v' b) : REnd base w r (.returned (.tuple #[v', .int .i64 0])) w1 := by
  rw [hr]; exact ⟨n, hl, v', rfl, h⟩
theorem REnd.bad {x : Int} (hr : r = .error x) (n : Nb base w w1) (hx : x ≠ 0) : REnd base w r (.returned (.tuple #[.slice none 0 0, .int .i64 x])) w1 := by
  rw [hr]; exact ⟨n, hx, rfl⟩
theorem REnd.of_ok {b : List UInt8} (hr : r = .ok b) (h : REnd base w r e w1) : Nb base w w1 ∧ b.length ≤ 65536 ∧ ∃ v', e = .returned (.tuple #[v', .int .i64 0]) ∧ OwnBs base w1 v' b := by rw [hr] at h; exact h
theorem REnd.of_bad {x : Int} (hr : r = .error x) (h : REnd base w r e w1) : Nb base w w1 ∧ x ≠ 0 ∧ e = .returned (.tuple #[.slice none 0 0, .int .i64 x]) := by rw [hr] at h; exact h
theorem REnd.nb (h : REnd base w r e w1) {w0 : World} (n : Nb base w0 w) : REnd base w0 r e w1 := ⟨n.trans h.1, h.2⟩
end
/-- The slice is handed back, unless it is too long. -/
theorem reflong_calls (base : Nat) (v : Value) (b : List UInt8) (w : World) (h : OwnBs base w v b) :
    Calls Tryd.prog 20 #[v] w (REnd base w (lng b)) := by
  obtain ⟨A, n, cap, rfl, hr, hn⟩ := h.form
  by_cases h6 : b.length ≤ 65536
  · have hd : decide ((65536 : Int) < (n : Int)) = false := by have := hn.out; simp; omega
    have HO := Lib.hid (And.intro h h6)
    clear h hn h6
    go_enter Tryd.func20, Tryd.ntmps20
    go_wp2_with fail
    go_ret2
    exact REnd.ok (by unfold lng; rw [if_pos HO.out.2]) (Nb.refl _ _) HO.out.2 HO.out.1
  · have hd : decide ((65536 : Int) < (n : Int)) = true := by have := hn.out; simp; omega
    have HO := Lib.hid h6
    clear h hn h6
    go_enter Tryd.func20, Tryd.ntmps20
    go_wp2_with fail
    go_ret2
    exact REnd.bad (by unfold lng; rw [if_neg HO.out]) (Nb.refl _ _) (by decide)
/-- Bytes behind bytes, if they are not too many. -/
theorem OwnBs.nbx {base : Nat} {w w1 : World} {v : Value} {bs : List UInt8} (h : OwnBs base w v bs) (b : Below w.heap.size w w1) : OwnBs base w1 v bs := h.below b (Nat.le_refl _)
set_option maxHeartbeats 2000000 in
theorem reftext_calls (base : Nat) (v : Value) (b l : List UInt8) (w : World) (h : OwnBs base w v b) (hb : b.length ≤ 65536) (hB : base ≤ w.heap.size) (hl : l.length ≤ 140737488355328) :
    Calls Tryd.prog 21 #[v, .string ⟨l.toArray⟩] w (REnd base w (txt b l)) := by
  by_cases h6 : 65536 < l.length
  · have HR := Lib.hid (show txt b l = .error 3 by unfold txt; rw [if_pos h6])
    have hd1 : decide ((65536 : Int) < (l.length : Int)) = true := by simp; omega
    clear h6 h
    go_enter Tryd.func21, Tryd.ntmps21
    go_wp2_with fail
    go_ret2
    exact REnd.bad HR.out (Nb.refl _ _) (by decide)
  · have hd1 : decide ((65536 : Int) < (l.length : Int)) = false := by simp; omega
    have HQ := refput_calls l w (by omega)
    have hpl := putF_le l
    obtain ⟨q, hq⟩ : ∃ q, putF l = q := ⟨_, rfl⟩
    rw [hq] at hpl
    have hql : q.length ≤ 70368744000000 := by omega
    have HP := Lib.hid h
    have HL := Lib.hid hl
    have H6 := Lib.hid h6
    unfold PutPost at HQ
    rw [hq] at HQ
    clear h hl hpl h6
    cases hv : Lib.validD l with
    | false =>
      have HR := Lib.hid (show txt b l = .error 1 by unfold txt; rw [if_neg H6.out, hv]; rfl)
      rw [hv] at HQ
      clear hq hv
      go_enter Tryd.func21, Tryd.ntmps21
      go_wp2_with fail
      refine HQ.mono ?_
      rintro e w1 ⟨rfl, b1⟩
      go_wp2_with fail
      go_ret2
      exact REnd.bad HR.out (Nb.of_below b1 hB) (by decide)
    | true =>
      have HR := Lib.hid (show txt b l = lng (b ++ q) by unfold txt; rw [if_neg H6.out, hv, if_pos rfl, hq])
      rw [hv] at HQ
      clear hq hv
      cases hr : lng (b ++ q)
      all_goals
        have HR2 := Lib.hid hr
        clear hr
        go_enter Tryd.func21, Tryd.ntmps21
        go_wp2_with fail
        refine HQ.mono ?_
        rintro e w1 ⟨rfl, b1⟩
        have HB1 := Lib.hid b1
        have hB1 : base ≤ w1.heap.size := Nat.le_trans hB b1.size
        clear b1
        go_wp2_with (at_builtin; refine wpList_append_st rfl _ _ rfl base v b rfl (HP.out.nbx HB1.out) q rfl (by omega) hB1 ?_; intro v2 w2 own2 gb2; have n2 := Lib.hid ((Nb.of_below HB1.out hB).trans (Nb.of_gb gb2 (HP.out.nbx HB1.out) hB1)); have own2' := Lib.hid own2; clear own2 gb2)
        refine (reflong_calls base v2 _ _ own2'.out).mono ?_
        intro e w3 hE
        first | (obtain ⟨n3, hx, rfl⟩ := REnd.of_bad HR2.out hE; clear hE; have N3 := Lib.hid n3; clear n3) | (obtain ⟨n3, hl3, v3, rfl, o3⟩ := REnd.of_ok HR2.out hE; clear hE; have N3 := Lib.hid (And.intro n3 o3); clear n3 o3)
        go_wp2_with fail
        go_ret2
      · exact REnd.bad (HR.out.trans HR2.out) (n2.out.trans N3.out) hx
      · exact REnd.ok (HR.out.trans HR2.out) (n2.out.trans N3.out.1) hl3 N3.out.2
end Go.Proofs.YtajkgcmopmpihaaDoor
