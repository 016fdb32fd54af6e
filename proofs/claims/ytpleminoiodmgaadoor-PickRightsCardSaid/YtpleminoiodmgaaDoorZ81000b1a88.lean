/- Texts put together: QuO JvR JvQ. -/
import Derived.Test.YtpleminoiodmgaaDoorZ08047b06b3
import Derived.Lib.AppendStr
namespace Go.Proofs.YtpleminoiodmgaaDoor
open Go.ChangeShapes Go.WideShapes Go.ChangeAt Go.RowKit Go.IntWalk
set_option linter.unusedVariables false
set_option maxRecDepth 100000

def PutPost (l : List UInt8) (w : World) (e : Ending) (w' : World) : Prop := e = .returned (.tuple #[.string ⟨(putF l).toArray⟩, .bool (Lib.validD l)]) ∧ Below w.heap.size w w'
theorem PutPost.no {l : List UInt8} {w w' : World} (h : Lib.validD l = false) (hb : Below w.heap.size w w') : PutPost l w (.returned (.tuple #[.string ⟨#[]⟩, .bool false])) w' := by
  unfold PutPost putF; rw [h]; exact ⟨rfl, hb⟩
theorem PutPost.yes {l m : List UInt8} {w w' : World} (h : Lib.validD l = true) (hm : m = 34 :: escL l ++ [34]) (hb : Below w.heap.size w w') : PutPost l w (.returned (.tuple #[.string ⟨m.toArray⟩, .bool true])) w' := by
  unfold PutPost putF; rw [h, hm]; exact ⟨rfl, hb⟩
theorem own_quote (base : Nat) (w : World) (hb : base ≤ w.heap.size) : OwnBs base (w.alloc (.cells #[.int .u8 34] 5)) (.slice (some ⟨w.heap.size, 0, none⟩) 1 1) [34] := by
  refine BlkBs.own (g := w.heap.size) ?_ hb rfl (by unfold maxLen; omega)
  exact heap_alloc_new w _

theorem hex_get : ∀ j : Fin 16, ((⟨#[48, 49, 50, 51, 52, 53, 54, 55, 56, 57, 97, 98, 99, 100, 101, 102]⟩ : ByteArray)[j.val]'j.isLt) = hexB j.val := by decide
theorem hex_index (i : Int) (j : Nat) (W : World) (hi : i = (j : Int)) (hj : j < 16) (k : IntKind) :
    (Instr.index 9 (.string ⟨#[48, 49, 50, 51, 52, 53, 54, 55, 56, 57, 97, 98, 99, 100, 101, 102]⟩) (.int k i)).run Tryd.prog W = .ok (.int .u8 (hexB j).toNat) W := by
  subst hi
  rw [run_index_string W 9 _ k _ Tryd.underlying9, dif_pos ⟨by omega, by show (j : Int) < (16 : Nat); omega⟩]
  have := hex_get ⟨j, hj⟩
  simp only [Int.toNat_natCast]
  rw [this]

set_option maxHeartbeats 4000000 in
theorem refput_calls (l : List UInt8) (w : World) (hl : l.length ≤ 1000000) :
    Calls Tryd.prog 72 #[.string ⟨l.toArray⟩] w (PutPost l w) := by
  cases hv : Lib.validD l with
  | false =>
    have HV := Lib.hid hv; clear hv
    go_enter Tryd.func72, Tryd.ntmps72
    go_wp2_with fail
    refine (refvalid_calls l _ hl).mono ?_
    rintro e w1 ⟨rfl, rfl⟩
    rw [HV.out]
    go_wp2
    go_ret2
    exact PutPost.no HV.out (Below.refl _ _)
  | true =>
    have HV := Lib.hid hv; clear hv
    go_enter Tryd.func72, Tryd.ntmps72
    go_wp2_with fail
    refine (refvalid_calls l _ hl).mono ?_
    rintro e w1 ⟨rfl, rfl⟩
    rw [HV.out]
    go_wp2_with fail
    have hown0 := own_quote w.heap.size w (Nat.le_refl _)
    have hb0 : Below w.heap.size w (w.alloc (.cells #[.int .u8 34] 5)) := (Below.refl _ _).alloc (Nat.le_refl _) _
    go_loopw [5, 6] (fun v i wr => ∃ k, k ≤ l.length ∧ i = .int .i64 k ∧ OwnBs w.heap.size wr v (34 :: escL (l.take k)) ∧ Below w.heap.size w wr) (fun _ i _ => l.length - (intOf i).toNat)
    case atStart => exact ⟨0, Nat.zero_le _, rfl, by simpa [escL] using hown0, hb0⟩
    case round =>
      clear hown0 hb0
      obtain ⟨k, hk, rfl, hown, hbr⟩ := hrel
      have hsz := hbr.size
      have hlen := escL_take_len l k hk
      have hlen1 : (34 :: escL (l.take k)).length ≤ 6 * k + 1 := by simp; omega
      by_cases hp : k < l.length
      · have HT := Lib.hid (escL_take l k hp)
        obtain ⟨c, hc⟩ : ∃ c, l[k] = c := ⟨_, rfl⟩
        rw [hc] at HT
        have hcl := c.toNat_lt
        by_cases h34 : c = 34 ∨ c = 92
        · have HE : Hid (escB c = [92, c]) := by show _ = _; unfold escB; rw [if_pos h34]
          have hb : ((c.toNat : Int) == 34) = true ∨ (((c.toNat : Int) == 34) = false ∧ ((c.toNat : Int) == 92) = true) := by
            rcases h34 with rfl | rfl
            · exact .inl (by decide)
            · exact .inr ⟨by decide, by decide⟩
          clear h34
          rcases hb with h1 | ⟨h1, h2⟩
          all_goals
            go_wp2_with (at_builtin; (refine wpList_append_lit rfl _ _ rfl _ _ _ rfl hown [92, c] _ rfl 2 rfl rfl (by omega) (by omega) ?_; intro v' w2 hown' hgrow'))
            rw [List.cons_append, ← HE.out, ← HT.out] at hown'
            have hb3 : Below w.heap.size w w2 := hbr.grown hgrow' hsz (fun k hk => (hown.lt k hk).1)
            exact ⟨⟨k + 1, by omega, by go_num, hown', hb3⟩, by simp [intOf]; omega⟩
        · by_cases hsp : c = 8 ∨ c = 9 ∨ c = 10 ∨ c = 12 ∨ c = 13
          · clear h34
            rcases hsp with rfl | rfl | rfl | rfl | rfl
            · have HE : Hid (escB 8 = [92, 98]) := by show _ = _; decide
              go_wp2_with (at_builtin; (refine wpList_append_lit rfl _ _ rfl _ _ _ rfl hown [92, 98] _ rfl 2 rfl rfl (by omega) (by omega) ?_; intro v' w2 hown' hgrow'))
              rw [List.cons_append, ← HE.out, ← HT.out] at hown'
              have hb3 : Below w.heap.size w w2 := hbr.grown hgrow' hsz (fun k hk => (hown.lt k hk).1)
              exact ⟨⟨k + 1, by omega, by go_num, hown', hb3⟩, by simp [intOf]; omega⟩
            · have HE : Hid (escB 9 = [92, 116]) := by show _ = _; decide
              go_wp2_with (at_builtin; (refine wpList_append_lit rfl _ _ rfl _ _ _ rfl hown [92, 116] _ rfl 2 rfl rfl (by omega) (by omega) ?_; intro v' w2 hown' hgrow'))
              rw [List.cons_append, ← HE.out, ← HT.out] at hown'
              have hb3 : Below w.heap.size w w2 := hbr.grown hgrow' hsz (fun k hk => (hown.lt k hk).1)
              exact ⟨⟨k + 1, by omega, by go_num, hown', hb3⟩, by simp [intOf]; omega⟩
            · have HE : Hid (escB 10 = [92, 110]) := by show _ = _; decide
              go_wp2_with (at_builtin; (refine wpList_append_lit rfl _ _ rfl _ _ _ rfl hown [92, 110] _ rfl 2 rfl rfl (by omega) (by omega) ?_; intro v' w2 hown' hgrow'))
              rw [List.cons_append, ← HE.out, ← HT.out] at hown'
              have hb3 : Below w.heap.size w w2 := hbr.grown hgrow' hsz (fun k hk => (hown.lt k hk).1)
              exact ⟨⟨k + 1, by omega, by go_num, hown', hb3⟩, by simp [intOf]; omega⟩
            · have HE : Hid (escB 12 = [92, 102]) := by show _ = _; decide
              go_wp2_with (at_builtin; (refine wpList_append_lit rfl _ _ rfl _ _ _ rfl hown [92, 102] _ rfl 2 rfl rfl (by omega) (by omega) ?_; intro v' w2 hown' hgrow'))
              rw [List.cons_append, ← HE.out, ← HT.out] at hown'
              have hb3 : Below w.heap.size w w2 := hbr.grown hgrow' hsz (fun k hk => (hown.lt k hk).1)
              exact ⟨⟨k + 1, by omega, by go_num, hown', hb3⟩, by simp [intOf]; omega⟩
            · have HE : Hid (escB 13 = [92, 114]) := by show _ = _; decide
              go_wp2_with (at_builtin; (refine wpList_append_lit rfl _ _ rfl _ _ _ rfl hown [92, 114] _ rfl 2 rfl rfl (by omega) (by omega) ?_; intro v' w2 hown' hgrow'))
              rw [List.cons_append, ← HE.out, ← HT.out] at hown'
              have hb3 : Below w.heap.size w w2 := hbr.grown hgrow' hsz (fun k hk => (hown.lt k hk).1)
              exact ⟨⟨k + 1, by omega, by go_num, hown', hb3⟩, by simp [intOf]; omega⟩
          · have q8 : ∀ d : UInt8, c ≠ d → ((c.toNat : Int) == (d.toNat : Int)) = false := fun d hd => by
              rw [beq_eq_false_iff_ne]; intro h; exact hd (UInt8.toNat_inj.1 (by omega))
            have n1 : ((c.toNat : Int) == 34) = false := q8 34 (fun h => h34 (.inl h))
            have n2 : ((c.toNat : Int) == 92) = false := q8 92 (fun h => h34 (.inr h))
            have n3 : ((c.toNat : Int) == 8) = false := q8 8 (fun h => hsp (.inl h))
            have n4 : ((c.toNat : Int) == 9) = false := q8 9 (fun h => hsp (.inr (.inl h)))
            have n5 : ((c.toNat : Int) == 10) = false := q8 10 (fun h => hsp (.inr (.inr (.inl h))))
            have n6 : ((c.toNat : Int) == 12) = false := q8 12 (fun h => hsp (.inr (.inr (.inr (.inl h)))))
            have n7 : ((c.toNat : Int) == 13) = false := q8 13 (fun h => hsp (.inr (.inr (.inr (.inr h)))))
            have HE0 : Hid (escB c = if c.toNat < 32 then [92, 117, 48, 48, hexB (c.toNat / 16), hexB (c.toNat % 16)] else [c]) := by
              show _ = _
              unfold escB
              rw [if_neg h34, if_neg (fun h => hsp (.inl h)), if_neg (fun h => hsp (.inr (.inl h))), if_neg (fun h => hsp (.inr (.inr (.inl h)))), if_neg (fun h => hsp (.inr (.inr (.inr (.inl h))))), if_neg (fun h => hsp (.inr (.inr (.inr (.inr h)))))]
            clear q8 h34 hsp
            by_cases h32 : c.toNat < 32
            · have HE : Hid (escB c = [92, 117, 48, 48, hexB (c.toNat / 16), hexB (c.toNat % 16)]) := HE0.out.trans (if_pos h32)
              clear HE0
              have hW : IntKind.u8.wrap ((c.toNat : Int) / 16) = (c.toNat : Int) / 16 := by rw [IntKind.wrap_u8]; omega
              have hM : (c.toNat : Int).tmod 16 = (c.toNat : Int) % 16 := Int.tmod_eq_emod_of_nonneg (by omega)
              have hx1 := fun W => hex_index ((c.toNat : Int) / 16) (c.toNat / 16) W (by omega) (by omega) .u8
              have hx2 := fun W => hex_index ((c.toNat : Int) % 16) (c.toNat % 16) W (by omega) (by omega) .u8
              go_wp2_with fail
              go_region_held3 (fun _ => True) (trivial)
                ((refine step_append_lit (by rfl) _ _ (by rfl) w.heap.size _ _ (by rfl) (by first | exact World.ownsRow.alloc hown _ | exact (World.ownsRow.alloc hown _).drew | exact ((World.ownsRow.alloc hown _).drew).drew) ⟨wr.heap.size, 0, none⟩
                    [92, 117, 48, 48, hexB (c.toNat / 16), hexB (c.toNat % 16)] 6 6 (by rfl) (rb_const wr _ _ rfl (0, 0)) (by rfl) (by omega) (by omega) (by simp; omega) ?_; intro v' w2 hown' hgrow'))
              all_goals go_wp2
              all_goals
                rw [List.cons_append, ← HE.out, ← HT.out] at hown'
                have hb3 : Below w.heap.size w w2 := Below.grown (by first | exact hbr.alloc hsz _ | exact (hbr.alloc hsz _).drew) hgrow' (by simp; omega) (fun k hk => (hown.lt k hk).1)
                exact ⟨⟨k + 1, by omega, by go_num, hown', hb3⟩, by simp [intOf]; omega⟩
            · have HE : Hid (escB c = [c]) := HE0.out.trans (if_neg h32)
              clear HE0
              go_wp2_with (at_builtin; (refine wpList_append_lit rfl _ _ rfl _ _ _ rfl hown [c] _ rfl 1 rfl rfl (by omega) (by omega) ?_; intro v' w2 hown' hgrow'))
              rw [List.cons_append, ← HE.out, ← HT.out] at hown'
              have hb3 : Below w.heap.size w w2 := hbr.grown hgrow' hsz (fun k hk => (hown.lt k hk).1)
              exact ⟨⟨k + 1, by omega, by go_num, hown', hb3⟩, by simp [intOf]; omega⟩
      · have hkl : k = l.length := by omega
        rw [hkl, List.take_length] at hown hlen1
        go_wp2_with (at_builtin; (refine wpList_append_lit rfl _ _ rfl _ _ _ rfl hown [34] _ rfl 1 rfl rfl (by omega) (by omega) ?_; intro v' w2 hown' hgrow'))
        obtain ⟨A, n, cap, rfl, hrb, hn⟩ := hown'.form
        have hstr := run_str_rb w2 A n cap _ hrb hn
        have hb3 : Below w.heap.size w w2 := hbr.grown hgrow' hsz (fun k hk => (hown.lt k hk).1)
        go_simp
        go_wp2
        go_ret2
        exact PutPost.yes HV.out rfl hb3
end Go.Proofs.YtpleminoiodmgaaDoor
namespace Go.Proofs.YtpleminoiodmgaaDoor
open Go.ChangeShapes Go.WideShapes Go.ChangeAt Go.RowKit Go.IntWalk
set_option linter.unusedVariables false
set_option maxRecDepth 100000

theorem wpList_append_st {ops : Array Oper} {rest : List Oper} {o : Oper} {a : Act} {Q : Exit → Act → World → Prop} {w : World} (hgd : o.guard = none) (s x : Operand)
    (ho : o.op = .call { callee := .builtin .append, args := #[s, x], argTypes := #[74, 9] })
    (base : Nat) (v : Value) (bs : List UInt8) (hs : a.eval s = v) (hown : OwnBs base w v bs) (l : List UInt8) (hx : a.eval x = .string ⟨l.toArray⟩) (hlen : bs.length + l.length ≤ 70368744177664) (hbase : base ≤ w.heap.size)
    (h : ∀ v' w', OwnBs base w' v' (bs ++ l) → w.grownBy w' v.ownBlock → wpList Tryd.prog ops Q rest (a.put o.dst v') w') :
    wpList Tryd.prog ops Q (o :: rest) a w := by
  obtain ⟨i0, hi, hz0, hz1, hz2⟩ := info_parts infoU8
  refine Lib.wpList_append_own_string w hgd s x 74 9 ho base 5 i0 Tryd.underlying74 Tryd.underlying9 hi hz0 hz1 hz2 v _ _ hs hown ⟨l.toArray⟩ hx (by unfold maxLen; show _ + l.length ≤ _; omega) (by show _ + l.length ≤ _; omega) hbase ?_
  intro v' w' h1 h2 _
  refine h v' w' ?_ h2
  unfold OwnBs
  rw [List.length_append, List.map_append]
  exact h1
/-- What a call that puts bytes behind bytes of one's own leaves: all below base, and all that isn't bytes. -/
structure Nb (base : Nat) (w w' : World) : Prop where
  os : w'.os = w.os
  tape : w'.tape = w.tape
  output : w'.output = w.output
  size : w.heap.size ≤ w'.heap.size
  low : ∀ k, k < base → w'.heap[k]? = w.heap[k]?
  box : ∀ (k : Nat) (o : Obj), w.heap[k]? = some o → (∀ c f, o ≠ .cells c 5 f) → w'.heap[k]? = some o
section
variable {base : Nat} {w w1 w2 : World} {v : Value} {bs : List UInt8}
theorem Nb.refl (base : Nat) (w : World) : Nb base w w := ⟨rfl, rfl, rfl, Nat.le_refl _, fun _ _ => rfl, fun _ _ h _ => h⟩
theorem Nb.trans (h : Nb base w w1) (h2 : Nb base w1 w2) : Nb base w w2 :=
  ⟨h2.os.trans h.os, h2.tape.trans h.tape, h2.output.trans h.output, Nat.le_trans h.size h2.size, fun k hk => (h2.low k hk).trans (h.low k hk), fun k o hk ho => h2.box k o (h.box k o hk ho) ho⟩
theorem Nb.of_below (h : Below w.heap.size w w1) (hB : base ≤ w.heap.size) : Nb base w w1 :=
  ⟨h.os, h.tape, h.output, h.size, fun k hk => h.block k (by omega), fun k o hk _ => (h.block k (Array.getElem?_eq_some_iff.1 hk).1).trans hk⟩
theorem Nb.of_gb (hg : w.grownBy w1 v.ownBlock) (ho : OwnBs base w v bs) (hB : base ≤ w.heap.size) : Nb base w w1 :=
  ⟨hg.os, hg.tape, hg.output, hg.size, fun k hk => hg.block k (by omega) (fun e => by have := (ho.lt k e.symm).1; omega), fun k o hk hno => (hg.block k (Array.getElem?_eq_some_iff.1 hk).1 (ho.ne hk hno)).trans hk⟩
theorem Nb.below (h : Nb base w w1) : Below base w w1 := ⟨h.os, h.tape, h.output, h.size, h.low⟩
theorem Nb.blk (h : Nb base w w1) {m : Nat} {T : TypeId} {cs : List Value} (hb : Blk w m T cs) (hT : T ≠ 5) : Blk w1 m T cs := h.box m _ hb (fun c f e => by cases e; exact hT rfl)
end
/-- How a call of the document's writer ends. -/
def REnd (base : Nat) (w : World) (r : Res) (e : Ending) (w' : World) : Prop :=
  Nb base w w' ∧ match r with
  | .ok b => b.length ≤ 65536 ∧ ∃ v', e = .returned (.tuple #[v', .int .i64 0]) ∧ OwnBs base w' v' b
  | .error x => x ≠ 0 ∧ e = .returned (.tuple #[.slice none 0 0, .int .i64 x])
section
variable {base : Nat} {w w1 : World} {r : Res} {e : Ending}
theorem REnd.ok {b : List UInt8} {v' : Value} (hr : r = .ok b) (n : Nb base w w1) (hl : b.length ≤ 65536) (h : OwnBs base w1 v' b) : REnd base w r (.returned (.tuple #[v', .int .i64 0])) w1 := by
  rw [hr]; exact ⟨n, hl, v', rfl, h⟩
theorem REnd.bad {x : Int} (hr : r = .error x) (n : Nb base w w1) (hx : x ≠ 0) : REnd base w r (.returned (.tuple #[.slice none 0 0, .int .i64 x])) w1 := by
  rw [hr]; exact ⟨n, hx, rfl⟩
theorem REnd.of_ok {b : List UInt8} (hr : r = .ok b) (h : REnd base w r e w1) : Nb base w w1 ∧ b.length ≤ 65536 ∧ ∃ v', e = .returned (.tuple #[v', .int .i64 0]) ∧ OwnBs base w1 v' b := by rw [hr] at h; exact h
theorem REnd.of_bad {x : Int} (hr : r = .error x) (h : REnd base w r e w1) : Nb base w w1 ∧ x ≠ 0 ∧ e = .returned (.tuple #[.slice none 0 0, .int .i64 x]) := by rw [hr] at h; exact h
theorem REnd.nb (h : REnd base w r e w1) {w0 : World} (n : Nb base w0 w) : REnd base w0 r e w1 := ⟨n.trans h.1, h.2⟩
end
/-- The slice is handed back, unless it is too long. -/
theorem reflong_calls (base : Nat) (v : Value) (b : List UInt8) (w : World) (h : OwnBs base w v b) :
    Calls Tryd.prog 59 #[v] w (REnd base w (lng b)) := by
  obtain ⟨A, n, cap, rfl, hr, hn⟩ := h.form
  by_cases h6 : b.length ≤ 65536
  · have hd : decide ((65536 : Int) < (n : Int)) = false := by have := hn.out; simp; omega
    have HO := Lib.hid (And.intro h h6)
    clear h hn h6
    go_enter Tryd.func59, Tryd.ntmps59
    go_wp2_with fail
    go_ret2
    exact REnd.ok (by unfold lng; rw [if_pos HO.out.2]) (Nb.refl _ _) HO.out.2 HO.out.1
  · have hd : decide ((65536 : Int) < (n : Int)) = true := by have := hn.out; simp; omega
    have HO := Lib.hid h6
    clear h hn h6
    go_enter Tryd.func59, Tryd.ntmps59
    go_wp2_with fail
    go_ret2
    exact REnd.bad (by unfold lng; rw [if_neg HO.out]) (Nb.refl _ _) (by decide)
/-- Bytes behind bytes, if they are not too many. -/
theorem OwnBs.nbx {base : Nat} {w w1 : World} {v : Value} {bs : List UInt8} (h : OwnBs base w v bs) (b : Below w.heap.size w w1) : OwnBs base w1 v bs := h.below b (Nat.le_refl _)
set_option maxHeartbeats 2000000 in
theorem reftext_calls (base : Nat) (v : Value) (b l : List UInt8) (w : World) (h : OwnBs base w v b) (hb : b.length ≤ 65536) (hB : base ≤ w.heap.size) (hl : l.length ≤ 140737488355328) :
    Calls Tryd.prog 61 #[v, .string ⟨l.toArray⟩] w (REnd base w (txt b l)) := by
  by_cases h6 : 65536 < l.length
  · have HR := Lib.hid (show txt b l = .error 3 by unfold txt; rw [if_pos h6])
    have hd1 : decide ((65536 : Int) < (l.length : Int)) = true := by simp; omega
    clear h6 h
    go_enter Tryd.func61, Tryd.ntmps61
    go_wp2_with fail
    go_ret2
    exact REnd.bad HR.out (Nb.refl _ _) (by decide)
  · have hd1 : decide ((65536 : Int) < (l.length : Int)) = false := by simp; omega
    have HQ := refput_calls l w (by omega)
    have hpl := putF_le l
    obtain ⟨q, hq⟩ : ∃ q, putF l = q := ⟨_, rfl⟩
    rw [hq] at hpl
    have hql : q.length ≤ 70368744000000 := by omega
    have HP := Lib.hid h
    have HL := Lib.hid hl
    have H6 := Lib.hid h6
    unfold PutPost at HQ
    rw [hq] at HQ
    clear h hl hpl h6
    cases hv : Lib.validD l with
    | false =>
      have HR := Lib.hid (show txt b l = .error 1 by unfold txt; rw [if_neg H6.out, hv]; rfl)
      rw [hv] at HQ
      clear hq hv
      go_enter Tryd.func61, Tryd.ntmps61
      go_wp2_with fail
      refine HQ.mono ?_
      rintro e w1 ⟨rfl, b1⟩
      go_wp2_with fail
      go_ret2
      exact REnd.bad HR.out (Nb.of_below b1 hB) (by decide)
    | true =>
      have HR := Lib.hid (show txt b l = lng (b ++ q) by unfold txt; rw [if_neg H6.out, hv, if_pos rfl, hq])
      rw [hv] at HQ
      clear hq hv
      cases hr : lng (b ++ q)
      all_goals
        have HR2 := Lib.hid hr
        clear hr
        go_enter Tryd.func61, Tryd.ntmps61
        go_wp2_with fail
        refine HQ.mono ?_
        rintro e w1 ⟨rfl, b1⟩
        have HB1 := Lib.hid b1
        have hB1 : base ≤ w1.heap.size := Nat.le_trans hB b1.size
        clear b1
        go_wp2_with (at_builtin; refine wpList_append_st rfl _ _ rfl base v b rfl (HP.out.nbx HB1.out) q rfl (by omega) hB1 ?_; intro v2 w2 own2 gb2; have n2 := Lib.hid ((Nb.of_below HB1.out hB).trans (Nb.of_gb gb2 (HP.out.nbx HB1.out) hB1)); have own2' := Lib.hid own2; clear own2 gb2)
        refine (reflong_calls base v2 _ _ own2'.out).mono ?_
        intro e w3 hE
        first | (obtain ⟨n3, hx, rfl⟩ := REnd.of_bad HR2.out hE; clear hE; have N3 := Lib.hid n3; clear n3) | (obtain ⟨n3, hl3, v3, rfl, o3⟩ := REnd.of_ok HR2.out hE; clear hE; have N3 := Lib.hid (And.intro n3 o3); clear n3 o3)
        go_wp2_with fail
        go_ret2
      · exact REnd.bad (HR.out.trans HR2.out) (n2.out.trans N3.out) hx
      · exact REnd.ok (HR.out.trans HR2.out) (n2.out.trans N3.out.1) hl3 N3.out.2
end Go.Proofs.YtpleminoiodmgaaDoor
namespace Go.Proofs.YtpleminoiodmgaaDoor
open Go.ChangeShapes Go.WideShapes Go.ChangeAt Go.RowKit Go.IntWalk
set_option linter.unusedVariables false
set_option maxRecDepth 100000

set_option maxHeartbeats 4000000 in
theorem refval_bad (kd : Int) (is : Bool) (n : Int) (s : List UInt8) (l m : JT) (deep : Nat) (dI : Int) (base : Nat) (v : Value) (b : List UInt8) (w : World) (A B : Option Addr) (nl cl nm cm : Nat) (hB : base ≤ w.heap.size) (rl : Room nl cl l.ext) (rm : Room nm cm m.ext) (hf : Fit kd n s) (h : OwnBs base w v b) (hb : b.length ≤ 65536) (hT : PowT base w) (hj : (⟨kd, is, n, s, l, m⟩ : Jv).bare = false) :
    Calls Tryd.prog 41 #[v, .agg #[.int .i64 kd, .bool is, .int .i64 n, .string ⟨s.toArray⟩, .slice A nl cl, .slice B nm cm], .int .i64 dI] w (REnd base w (wrV ⟨kd, is, n, s, l, m⟩ deep b)) := by
  have HS := fun w => refbare_calls ⟨kd, is, n, s, l, m⟩ A B nl cl nm cm w rl rm
  have HE := Lib.hid (wrV_bad hj deep b)
  simp only [hj] at HS
  clear rl rm hf hT hj h
  try dsimp only at *
  go_enter Tryd.func41, Tryd.ntmps41
  go_wp2_with fail
  refine (HS _).mono ?_
  rintro e w1 ⟨rfl, b1⟩
  go_wp2_with fail
  go_ret2
  exact REnd.bad HE.out (Nb.of_below (((Below.refl _ _).alloc (Nat.le_refl _) _).trans (b1.mono (by simp))) hB) (by decide)
set_option maxHeartbeats 4000000 in
theorem refval_0 (is : Bool) (n : Int) (s : List UInt8) (l m : JT) (deep : Nat) (dI : Int) (base : Nat) (v : Value) (b : List UInt8) (w : World) (A B : Option Addr) (nl cl nm cm : Nat) (hB : base ≤ w.heap.size) (rl : Room nl cl l.ext) (rm : Room nm cm m.ext) (hf : Fit 0 n s) (h : OwnBs base w v b) (hb : b.length ≤ 65536) (hT : PowT base w) (hj : (⟨0, is, n, s, l, m⟩ : Jv).bare = true) :
    Calls Tryd.prog 41 #[v, .agg #[.int .i64 0, .bool is, .int .i64 n, .string ⟨s.toArray⟩, .slice A nl cl, .slice B nm cm], .int .i64 dI] w (REnd base w (wrV ⟨0, is, n, s, l, m⟩ deep b)) := by
  have HS := fun w => refbare_calls ⟨0, is, n, s, l, m⟩ A B nl cl nm cm w rl rm
  have E0 := Lib.hid (wrV_0 (v := ⟨0, is, n, s, l, m⟩) hj rfl deep b)
  simp only [hj] at HS
  have H := Lib.hid h
  have HX := Lib.hid (And.intro hT hf)
  clear rl rm hf hT hj h
  try dsimp only at *
  have HE := Lib.hid (show wrV ⟨0, is, n, s, l, m⟩ deep b = lng (b ++ [110, 117, 108, 108]) by rw [E0.out])
  clear E0
  cases hr : (lng (b ++ [110, 117, 108, 108]) : Res)
  all_goals
    have HR2 := Lib.hid hr
    clear hr
    go_enter Tryd.func41, Tryd.ntmps41
    go_wp2_with fail
    refine (HS _).mono ?_
    rintro e w1 ⟨rfl, b1⟩
    have hb1 : Below w.heap.size w w1 := ((Below.refl _ _).alloc (Nat.le_refl _) _).trans (b1.mono (by simp))
    have bx := (Blk.new w [.int .i64 0, .bool is, .int .i64 n, .string ⟨s.toArray⟩, .slice A nl cl, .slice B nm cm] 25).later b1
    have d0 := bx.cell (k := 0) rfl
    have d1 := bx.cell (k := 1) rfl
    have d2 := bx.cell (k := 2) rfl
    have d3 := bx.cell (k := 3) rfl
    have d4 := bx.cell (k := 4) rfl
    have d5 := bx.cell (k := 5) rfl
    have HB1 := Lib.hid hb1
    have hB1 : base ≤ w1.heap.size := Nat.le_trans hB hb1.size
    have BX := Lib.hid bx
    clear b1 hb1 bx
    have HO1 := Lib.hid (H.out.nbx HB1.out)
    go_wp2_with (at_builtin; refine wpList_append_st rfl _ _ rfl base v b rfl HO1.out [110, 117, 108, 108] rfl (by simp; omega) hB1 ?_; intro v2 w2 own2 gb2; have n2 := Lib.hid ((Nb.of_below HB1.out hB).trans (Nb.of_gb gb2 HO1.out hB1)); have own2' := Lib.hid own2; clear own2 gb2)
    refine (reflong_calls base v2 _ _ own2'.out).mono ?_
    intro e w3 hE
    first | (obtain ⟨n3, hx, rfl⟩ := REnd.of_bad HR2.out hE; clear hE; have N3 := Lib.hid n3; clear n3) | (obtain ⟨n3, hl3, v3, rfl, o3⟩ := REnd.of_ok HR2.out hE; clear hE; have N3 := Lib.hid (And.intro n3 o3); clear n3 o3)
    go_wp2_with fail
    go_ret2
  · exact REnd.bad (HE.out.trans HR2.out) (n2.out.trans N3.out) hx
  · exact REnd.ok (HE.out.trans HR2.out) (n2.out.trans N3.out.1) hl3 N3.out.2
set_option maxHeartbeats 4000000 in
theorem refval_1true (n : Int) (s : List UInt8) (l m : JT) (deep : Nat) (dI : Int) (base : Nat) (v : Value) (b : List UInt8) (w : World) (A B : Option Addr) (nl cl nm cm : Nat) (hB : base ≤ w.heap.size) (rl : Room nl cl l.ext) (rm : Room nm cm m.ext) (hf : Fit 1 n s) (h : OwnBs base w v b) (hb : b.length ≤ 65536) (hT : PowT base w) (hj : (⟨1, true, n, s, l, m⟩ : Jv).bare = true) :
    Calls Tryd.prog 41 #[v, .agg #[.int .i64 1, .bool true, .int .i64 n, .string ⟨s.toArray⟩, .slice A nl cl, .slice B nm cm], .int .i64 dI] w (REnd base w (wrV ⟨1, true, n, s, l, m⟩ deep b)) := by
  have HS := fun w => refbare_calls ⟨1, true, n, s, l, m⟩ A B nl cl nm cm w rl rm
  have E0 := Lib.hid (wrV_1 (v := ⟨1, true, n, s, l, m⟩) hj rfl deep b)
  simp only [hj] at HS
  have H := Lib.hid h
  have HX := Lib.hid (And.intro hT hf)
  clear rl rm hf hT hj h
  try dsimp only at *
  have HE := Lib.hid (show wrV ⟨1, true, n, s, l, m⟩ deep b = lng (b ++ [116, 114, 117, 101]) by rw [E0.out]; rfl)
  clear E0
  cases hr : (lng (b ++ [116, 114, 117, 101]) : Res)
  all_goals
    have HR2 := Lib.hid hr
    clear hr
    go_enter Tryd.func41, Tryd.ntmps41
    go_wp2_with fail
    refine (HS _).mono ?_
    rintro e w1 ⟨rfl, b1⟩
    have hb1 : Below w.heap.size w w1 := ((Below.refl _ _).alloc (Nat.le_refl _) _).trans (b1.mono (by simp))
    have bx := (Blk.new w [.int .i64 1, .bool true, .int .i64 n, .string ⟨s.toArray⟩, .slice A nl cl, .slice B nm cm] 25).later b1
    have d0 := bx.cell (k := 0) rfl
    have d1 := bx.cell (k := 1) rfl
    have d2 := bx.cell (k := 2) rfl
    have d3 := bx.cell (k := 3) rfl
    have d4 := bx.cell (k := 4) rfl
    have d5 := bx.cell (k := 5) rfl
    have HB1 := Lib.hid hb1
    have hB1 : base ≤ w1.heap.size := Nat.le_trans hB hb1.size
    have BX := Lib.hid bx
    clear b1 hb1 bx
    have HO1 := Lib.hid (H.out.nbx HB1.out)
    go_wp2_with (at_builtin; refine wpList_append_st rfl _ _ rfl base v b rfl HO1.out [116, 114, 117, 101] rfl (by simp; omega) hB1 ?_; intro v2 w2 own2 gb2; have n2 := Lib.hid ((Nb.of_below HB1.out hB).trans (Nb.of_gb gb2 HO1.out hB1)); have own2' := Lib.hid own2; clear own2 gb2)
    refine (reflong_calls base v2 _ _ own2'.out).mono ?_
    intro e w3 hE
    first | (obtain ⟨n3, hx, rfl⟩ := REnd.of_bad HR2.out hE; clear hE; have N3 := Lib.hid n3; clear n3) | (obtain ⟨n3, hl3, v3, rfl, o3⟩ := REnd.of_ok HR2.out hE; clear hE; have N3 := Lib.hid (And.intro n3 o3); clear n3 o3)
    go_wp2_with fail
    go_ret2
  · exact REnd.bad (HE.out.trans HR2.out) (n2.out.trans N3.out) hx
  · exact REnd.ok (HE.out.trans HR2.out) (n2.out.trans N3.out.1) hl3 N3.out.2
set_option maxHeartbeats 4000000 in
theorem refval_1false (n : Int) (s : List UInt8) (l m : JT) (deep : Nat) (dI : Int) (base : Nat) (v : Value) (b : List UInt8) (w : World) (A B : Option Addr) (nl cl nm cm : Nat) (hB : base ≤ w.heap.size) (rl : Room nl cl l.ext) (rm : Room nm cm m.ext) (hf : Fit 1 n s) (h : OwnBs base w v b) (hb : b.length ≤ 65536) (hT : PowT base w) (hj : (⟨1, false, n, s, l, m⟩ : Jv).bare = true) :
    Calls Tryd.prog 41 #[v, .agg #[.int .i64 1, .bool false, .int .i64 n, .string ⟨s.toArray⟩, .slice A nl cl, .slice B nm cm], .int .i64 dI] w (REnd base w (wrV ⟨1, false, n, s, l, m⟩ deep b)) := by
  have HS := fun w => refbare_calls ⟨1, false, n, s, l, m⟩ A B nl cl nm cm w rl rm
  have E0 := Lib.hid (wrV_1 (v := ⟨1, false, n, s, l, m⟩) hj rfl deep b)
  simp only [hj] at HS
  have H := Lib.hid h
  have HX := Lib.hid (And.intro hT hf)
  clear rl rm hf hT hj h
  try dsimp only at *
  have HE := Lib.hid (show wrV ⟨1, false, n, s, l, m⟩ deep b = lng (b ++ [102, 97, 108, 115, 101]) by rw [E0.out]; rfl)
  clear E0
  cases hr : (lng (b ++ [102, 97, 108, 115, 101]) : Res)
  all_goals
    have HR2 := Lib.hid hr
    clear hr
    go_enter Tryd.func41, Tryd.ntmps41
    go_wp2_with fail
    refine (HS _).mono ?_
    rintro e w1 ⟨rfl, b1⟩
    have hb1 : Below w.heap.size w w1 := ((Below.refl _ _).alloc (Nat.le_refl _) _).trans (b1.mono (by simp))
    have bx := (Blk.new w [.int .i64 1, .bool false, .int .i64 n, .string ⟨s.toArray⟩, .slice A nl cl, .slice B nm cm] 25).later b1
    have d0 := bx.cell (k := 0) rfl
    have d1 := bx.cell (k := 1) rfl
    have d2 := bx.cell (k := 2) rfl
    have d3 := bx.cell (k := 3) rfl
    have d4 := bx.cell (k := 4) rfl
    have d5 := bx.cell (k := 5) rfl
    have HB1 := Lib.hid hb1
    have hB1 : base ≤ w1.heap.size := Nat.le_trans hB hb1.size
    have BX := Lib.hid bx
    clear b1 hb1 bx
    have HO1 := Lib.hid (H.out.nbx HB1.out)
    go_wp2_with (at_builtin; refine wpList_append_st rfl _ _ rfl base v b rfl HO1.out [102, 97, 108, 115, 101] rfl (by simp; omega) hB1 ?_; intro v2 w2 own2 gb2; have n2 := Lib.hid ((Nb.of_below HB1.out hB).trans (Nb.of_gb gb2 HO1.out hB1)); have own2' := Lib.hid own2; clear own2 gb2)
    refine (reflong_calls base v2 _ _ own2'.out).mono ?_
    intro e w3 hE
    first | (obtain ⟨n3, hx, rfl⟩ := REnd.of_bad HR2.out hE; clear hE; have N3 := Lib.hid n3; clear n3) | (obtain ⟨n3, hl3, v3, rfl, o3⟩ := REnd.of_ok HR2.out hE; clear hE; have N3 := Lib.hid (And.intro n3 o3); clear n3 o3)
    go_wp2_with fail
    go_ret2
  · exact REnd.bad (HE.out.trans HR2.out) (n2.out.trans N3.out) hx
  · exact REnd.ok (HE.out.trans HR2.out) (n2.out.trans N3.out.1) hl3 N3.out.2
set_option maxHeartbeats 4000000 in
theorem refval_2 (is : Bool) (n : Int) (s : List UInt8) (l m : JT) (deep : Nat) (dI : Int) (base : Nat) (v : Value) (b : List UInt8) (w : World) (A B : Option Addr) (nl cl nm cm : Nat) (hB : base ≤ w.heap.size) (rl : Room nl cl l.ext) (rm : Room nm cm m.ext) (hf : Fit 2 n s) (h : OwnBs base w v b) (hb : b.length ≤ 65536) (hT : PowT base w) (hj : (⟨2, is, n, s, l, m⟩ : Jv).bare = true) :
    Calls Tryd.prog 41 #[v, .agg #[.int .i64 2, .bool is, .int .i64 n, .string ⟨s.toArray⟩, .slice A nl cl, .slice B nm cm], .int .i64 dI] w (REnd base w (wrV ⟨2, is, n, s, l, m⟩ deep b)) := by
  have HS := fun w => refbare_calls ⟨2, is, n, s, l, m⟩ A B nl cl nm cm w rl rm
  have E0 := Lib.hid (wrV_2 (v := ⟨2, is, n, s, l, m⟩) hj rfl deep b)
  simp only [hj] at HS
  have H := Lib.hid h
  have HX := Lib.hid (And.intro hT hf)
  clear rl rm hf hT hj h
  try dsimp only at *
  have HE := Lib.hid (show wrV ⟨2, is, n, s, l, m⟩ deep b = lng (b ++ Lib.itoa n) by rw [E0.out])
  clear E0
  cases hr : (lng (b ++ Lib.itoa n) : Res)
  all_goals
    have HR2 := Lib.hid hr
    clear hr
    go_enter Tryd.func41, Tryd.ntmps41
    go_wp2_with fail
    refine (HS _).mono ?_
    rintro e w1 ⟨rfl, b1⟩
    have hb1 : Below w.heap.size w w1 := ((Below.refl _ _).alloc (Nat.le_refl _) _).trans (b1.mono (by simp))
    have bx := (Blk.new w [.int .i64 2, .bool is, .int .i64 n, .string ⟨s.toArray⟩, .slice A nl cl, .slice B nm cm] 25).later b1
    have d0 := bx.cell (k := 0) rfl
    have d1 := bx.cell (k := 1) rfl
    have d2 := bx.cell (k := 2) rfl
    have d3 := bx.cell (k := 3) rfl
    have d4 := bx.cell (k := 4) rfl
    have d5 := bx.cell (k := 5) rfl
    have HB1 := Lib.hid hb1
    have hB1 : base ≤ w1.heap.size := Nat.le_trans hB hb1.size
    have BX := Lib.hid bx
    clear b1 hb1 bx
    have HO1 := Lib.hid (H.out.nbx HB1.out)
    go_wp2_with fail
    refine (itoa_calls base n HX.out.2.2.1.1 HX.out.2.2.1.2 _ (HX.out.1.blw (HB1.out.mono hB))).mono ?_
    rintro e w2 ⟨rfl, b2⟩
    have HB2 := Lib.hid (HB1.out.trans (b2.mono HB1.out.size))
    have hB2 : base ≤ w2.heap.size := Nat.le_trans hB1 b2.size
    have HO2 := Lib.hid (H.out.nbx HB2.out)
    have hil := itoa_le n HX.out.2.2.1.1 HX.out.2.2.1.2
    clear b2
    go_wp2_with (at_builtin; refine wpList_append_st rfl _ _ rfl base v b rfl HO2.out (Lib.itoa n) rfl (by omega) hB2 ?_; intro v2 w9 own2 gb2; have n2 := Lib.hid ((Nb.of_below HB2.out hB).trans (Nb.of_gb gb2 HO2.out hB2)); have own2' := Lib.hid own2; clear own2 gb2)
    refine (reflong_calls base v2 _ _ own2'.out).mono ?_
    intro e w3 hE
    first | (obtain ⟨n3, hx, rfl⟩ := REnd.of_bad HR2.out hE; clear hE; have N3 := Lib.hid n3; clear n3) | (obtain ⟨n3, hl3, v3, rfl, o3⟩ := REnd.of_ok HR2.out hE; clear hE; have N3 := Lib.hid (And.intro n3 o3); clear n3 o3)
    go_wp2_with fail
    go_ret2
  · exact REnd.bad (HE.out.trans HR2.out) (n2.out.trans N3.out) hx
  · exact REnd.ok (HE.out.trans HR2.out) (n2.out.trans N3.out.1) hl3 N3.out.2
set_option maxHeartbeats 4000000 in
theorem refval_3 (is : Bool) (n : Int) (s : List UInt8) (l m : JT) (deep : Nat) (dI : Int) (base : Nat) (v : Value) (b : List UInt8) (w : World) (A B : Option Addr) (nl cl nm cm : Nat) (hB : base ≤ w.heap.size) (rl : Room nl cl l.ext) (rm : Room nm cm m.ext) (hf : Fit 3 n s) (h : OwnBs base w v b) (hb : b.length ≤ 65536) (hT : PowT base w) (hj : (⟨3, is, n, s, l, m⟩ : Jv).bare = true) :
    Calls Tryd.prog 41 #[v, .agg #[.int .i64 3, .bool is, .int .i64 n, .string ⟨s.toArray⟩, .slice A nl cl, .slice B nm cm], .int .i64 dI] w (REnd base w (wrV ⟨3, is, n, s, l, m⟩ deep b)) := by
  have HS := fun w => refbare_calls ⟨3, is, n, s, l, m⟩ A B nl cl nm cm w rl rm
  have E0 := Lib.hid (wrV_3 (v := ⟨3, is, n, s, l, m⟩) hj rfl deep b)
  simp only [hj] at HS
  have H := Lib.hid h
  have HX := Lib.hid (And.intro hT hf)
  clear rl rm hf hT hj h
  try dsimp only at *
  have HE := Lib.hid (show wrV ⟨3, is, n, s, l, m⟩ deep b = txt b s by rw [E0.out])
  clear E0
  cases hr : (txt b s : Res)
  all_goals
    have HR2 := Lib.hid hr
    clear hr
    go_enter Tryd.func41, Tryd.ntmps41
    go_wp2_with fail
    refine (HS _).mono ?_
    rintro e w1 ⟨rfl, b1⟩
    have hb1 : Below w.heap.size w w1 := ((Below.refl _ _).alloc (Nat.le_refl _) _).trans (b1.mono (by simp))
    have bx := (Blk.new w [.int .i64 3, .bool is, .int .i64 n, .string ⟨s.toArray⟩, .slice A nl cl, .slice B nm cm] 25).later b1
    have d0 := bx.cell (k := 0) rfl
    have d1 := bx.cell (k := 1) rfl
    have d2 := bx.cell (k := 2) rfl
    have d3 := bx.cell (k := 3) rfl
    have d4 := bx.cell (k := 4) rfl
    have d5 := bx.cell (k := 5) rfl
    have HB1 := Lib.hid hb1
    have hB1 : base ≤ w1.heap.size := Nat.le_trans hB hb1.size
    have BX := Lib.hid bx
    clear b1 hb1 bx
    have HO1 := Lib.hid (H.out.nbx HB1.out)
    go_wp2_with fail
    refine (reftext_calls base v b s _ HO1.out hb hB1 HX.out.2.2.2).mono ?_
    intro e w3 hE
    first | (obtain ⟨n3, hx, rfl⟩ := REnd.of_bad HR2.out hE; clear hE; have N3 := Lib.hid n3; clear n3) | (obtain ⟨n3, hl3, v3, rfl, o3⟩ := REnd.of_ok HR2.out hE; clear hE; have N3 := Lib.hid (And.intro n3 o3); clear n3 o3)
    go_wp2_with fail
    go_ret2
  · exact REnd.bad (HE.out.trans HR2.out) ((Nb.of_below HB1.out hB).trans N3.out) hx
  · exact REnd.ok (HE.out.trans HR2.out) ((Nb.of_below HB1.out hB).trans N3.out.1) hl3 N3.out.2
end Go.Proofs.YtpleminoiodmgaaDoor
