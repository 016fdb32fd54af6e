/- Texts put together: Lit QuOp RuneHi QuG QuN. -/
import Derived.Test.YtajkgcmopmpihaaGreatDoorYcc81974a9e
import Derived.Deep.RegionHeld3
import Derived.Deep.AppendLies
import Derived.Test.YtajkgcmopmpihaaGreatDoorYcc66149044
import Derived.Lib.ValidLaws
import Derived.Test.YtajkgcmopmpihaaGreatDoorY49b39df4f7
import Derived.Test.YtajkgcmopmpihaaGreatDoorShelfK
import Derived.WalkSmall
namespace Go.Proofs.YtajkgcmopmpihaaGreatDoor
open Go.ChangeShapes Go.WideShapes Go.ChangeAt Go.RowKit Go.IntWalk
set_option linter.unusedVariables false
theorem wpList_append_lit {ops : Array Oper} {rest : List Oper} {o : Oper} {a : Act} {Q : Exit → Act → World → Prop} {w : World} (hgd : o.guard = none) (s x : Operand)
    (ho : o.op = .call { callee := .builtin .append, args := #[s, x], argTypes := #[58, 58] })
    (base : Nat) (v : Value) (bs : List UInt8) (hs : a.eval s = v) (hown : OwnBs base w v bs) (l : List UInt8) (C : Array Value) (hC : C = (l.map fun c => Value.int .u8 c.toNat).toArray)
    (n : Nat) (hx : a.eval x = .slice (some ⟨w.heap.size, 0, none⟩) n n) (hn : Hid (n = l.length)) (hlen : bs.length + n ≤ 70368744177664) (hbase : base ≤ w.heap.size)
    (h : ∀ v' w', OwnBs base w' v' (bs ++ l) → w.grownBy w' v.ownBlock → wpList Tryz.prog ops Q rest (a.put o.dst v') w') :
    wpList Tryz.prog ops Q (o :: rest) a (w.alloc (.cells C 5)) := by
  refine wpList_append_rb hgd s x ho base v bs hs (World.ownsRow.alloc hown _) _ n n l hx (rb_const w l C hC _) hn hlen (by simp; omega) ?_
  intro v' w' h1 h2
  exact h v' w' h1 ⟨h2.os, h2.tape, h2.output, Nat.le_trans (by simp) h2.size, fun k hk hne => (h2.block k (by simp; omega) hne).trans (heap_alloc_old w _ hk)⟩
theorem step_append_lit {ops : Array Oper} {o : Oper} {a : Act} {K : Act → World → Prop} {Q : Exit → Act → World → Prop} {E : Prop} {W : World} (hgd : o.guard = none) (s x : Operand)
    (ho : o.op = .call { callee := .builtin .append, args := #[s, x], argTypes := #[58, 58] })
    (base : Nat) (v : Value) (bs : List UInt8) (hs : a.eval s = v) (hown : OwnBs base W v bs) (ad : Addr) (l : List UInt8) (n c : Nat) (hx : a.eval x = .slice (some ad) n c)
    (hl : RB W (some ad) l) (hn : n = l.length) (h0 : 0 < n) (hlen : bs.length + n ≤ 70368744177664) (hbase : base ≤ W.heap.size)
    (h : ∀ v' w', OwnBs base w' v' (bs ++ l) → W.grownBy w' v.ownBlock → K (a.put o.dst v') w') :
    if Region.wanted o (yielded ops a.tmps) = true then Oper.wp Tryz.prog o a W K Q else E := by
  obtain ⟨i0, hi, hz0, hz1, hz2⟩ := info_parts infoU8
  subst hn
  refine step_append_lies W hgd s x 58 ho base 5 i0 (.int .u8 0) 1 1 Tryz.underlying58 hi hz0 hz1 hz2 rfl (by decide) v _ _ hs hown ad l.length c (l.map fun c => Value.int .u8 c.toNat) hx (by simp) ?_ ?_ h0 (by unfold maxLen; omega) (by omega) hbase _ rfl ?_
  · intro j u hj
    have hjl : j < l.length := by
      rcases Nat.lt_or_ge j l.length with h | h
      · exact h
      · simp [List.getElem?_eq_none h] at hj
    obtain ⟨b, off, h1, _, h3⟩ := hl j hjl
    cases h1
    have hplain : (⟨b, off, none⟩ : Addr).add j = ⟨b, off + j, none⟩ := by unfold Addr.add; split <;> simp_all
    rw [hplain, h3]
    simp [hjl] at hj
    subst hj
    simp [List.getD, List.getElem?_eq_getElem hjl]
  · intro u hu
    obtain ⟨y, _, rfl⟩ := List.mem_map.1 hu
    rfl
  · intro g cap w' h1 h2 _ _
    exact h _ w' (by simpa [OwnBs] using h1) h2
end Go.Proofs.YtajkgcmopmpihaaGreatDoor
namespace Go.Proofs.YtajkgcmopmpihaaGreatDoor
open Go.ChangeShapes Go.WideShapes Go.ChangeAt Go.RowKit Go.IntWalk
set_option linter.unusedVariables false
set_option maxRecDepth 100000
def PutPost (l : List UInt8) (w : World) (e : Ending) (w' : World) : Prop := e = .returned (.tuple #[.string ⟨(putF l).toArray⟩, .bool (Lib.validD l)]) ∧ Below w.heap.size w w'
theorem PutPost.no {l : List UInt8} {w w' : World} (h : Lib.validD l = false) (hb : Below w.heap.size w w') : PutPost l w (.returned (.tuple #[.string ⟨#[]⟩, .bool false])) w' := by
  unfold PutPost putF; rw [h]; exact ⟨rfl, hb⟩
theorem PutPost.yes {l m : List UInt8} {w w' : World} (h : Lib.validD l = true) (hm : m = 34 :: escL l ++ [34]) (hb : Below w.heap.size w w') : PutPost l w (.returned (.tuple #[.string ⟨m.toArray⟩, .bool true])) w' := by
  unfold PutPost putF; rw [h, hm]; exact ⟨rfl, hb⟩
theorem hex_get : ∀ j : Fin 16, ((⟨#[48, 49, 50, 51, 52, 53, 54, 55, 56, 57, 97, 98, 99, 100, 101, 102]⟩ : ByteArray)[j.val]'j.isLt) = hexB j.val := by decide
theorem hex_index (i : Int) (j : Nat) (W : World) (hi : i = (j : Int)) (hj : j < 16) (k : IntKind) :
    (Instr.index 9 (.string ⟨#[48, 49, 50, 51, 52, 53, 54, 55, 56, 57, 97, 98, 99, 100, 101, 102]⟩) (.int k i)).run Tryz.prog W = .ok (.int .u8 (hexB j).toNat) W := by
  subst hi
  rw [run_index_string W 9 _ k _ Tryz.underlying9, dif_pos ⟨by omega, by show (j : Int) < (16 : Nat); omega⟩]
  have := hex_get ⟨j, hj⟩
  simp only [Int.toNat_natCast]
  rw [this]
end Go.Proofs.YtajkgcmopmpihaaGreatDoor
namespace Go.Proofs.YtajkgcmopmpihaaGreatDoor
open Go.ChangeShapes Go.WideShapes Go.ChangeAt Go.RowKit Go.IntWalk
set_option linter.unusedVariables false
theorem indexByte_none (l : List UInt8) (c : UInt8) (h : ∀ b ∈ l, b ≠ c) : Lib.indexByte l c = -1 := by
  induction l with
  | nil => rfl
  | cons b l ih =>
    have hb : (b == c) = false := by rw [beq_eq_false_iff_ne]; exact h b (by simp)
    have := ih fun x hx => h x (by simp [hx])
    simp [Lib.indexByte, hb, this]
theorem decode_of_ascii (l : List UInt8) (hl : ∀ b ∈ l, b.toNat < 128) (pos : Nat) (h : pos < l.length) : Utf8.decode ⟨l.toArray⟩ pos = ((l.getD pos 0).toNat, 1) := by
  have h' : pos < (⟨l.toArray⟩ : ByteArray).size := h
  have hb : ((⟨l.toArray⟩ : ByteArray)[pos]'h').toNat < 128 := hl _ (List.getElem_mem h)
  rw [decode_ascii _ pos h' hb, List.getD_eq_getElem?_getD, List.getElem?_eq_getElem h]; rfl
theorem indexByte_no (l : List UInt8) (c : UInt8) (w : World) (h : ∀ b ∈ l, b ≠ c) :
    Calls Tryz.prog 37 #[.string ⟨l.toArray⟩, .int .u8 c.toNat] w fun e w' => e = .returned (.int .i64 (-1)) ∧ w' = w := by
  refine (Tryz.strings_IndexByte ⟨l.toArray⟩ c.toNat w).mono ?_
  rintro e w' ⟨rfl, h2⟩
  refine ⟨?_, h2⟩
  have hc : ((c.toNat : Int).toNat.toUInt8) = c := by simp
  rw [hc]
  rw [show (⟨l.toArray⟩ : ByteArray).data.toList = l from rfl, indexByte_none l c h]
set_option maxRecDepth 100000 in
set_option maxHeartbeats 1000000 in
theorem indexRune_hi (l : List UInt8) (r : Int) (w : World) (hl : ∀ b ∈ l, b.toNat < 128) (hlen : l.length ≤ 1000000) (hr : 128 ≤ r ∧ r ≤ 1114111) (hok : Utf8.valid r = true) :
    Calls Tryz.prog 91 #[.string ⟨l.toArray⟩, .int .i32 r] w fun e w' => e = .returned (.int .i64 (-1)) ∧ Below w.heap.size w w' := by
  by_cases he : r = 65533
  · subst he
    go_enter Tryz.func91, Tryz.ntmps91
    go_wp2_with fail
    go_loopw [] (fun wr => ∃ k, k ≤ l.length ∧ wr = w.iter ⟨l.toArray⟩ k) (fun wr => l.length - wr.iterPos w.heap.size)
    case atStart => exact ⟨0, Nat.zero_le _, rfl⟩
    case round =>
      obtain ⟨k, hk, rfl⟩ := hrel
      by_cases hp : k < l.length
      · have hnx := fun ty => run_next_any (P := Tryz.prog) w ⟨l.toArray⟩ k ty hp
        have hc : (l.getD k 0).toNat < 128 := hl _ (by rw [List.getD_eq_getElem?_getD, List.getElem?_eq_getElem hp]; exact List.getElem_mem hp)
        rw [decode_of_ascii l hl k hp] at hnx
        simp only at hnx
        generalize (l.getD k 0).toNat = C at *
        have hne : ((C : Int) == 65533) = false := by simp; omega
        go_wp2
        go_roundw
        case rel => exact ⟨k + 1, by omega, rfl⟩
        case measure => simp; omega
      · have hnx := fun ty => run_next_end (P := Tryz.prog) w ⟨l.toArray⟩ k ty hp
        go_wp2
        go_ret
        exact ⟨rfl, (Below.refl _ _).alloc (Nat.le_refl _) _⟩
  · have hne : (r == 65533) = false := by simpa using he
    have hv : Lib.validRune r = true := by rw [← hok]; exact (validRune_eq r).symm
    obtain ⟨e1, e2, e3⟩ := encode_facts r hok hr.1
    have e3 := e3 (by omega)
    obtain ⟨E, hE⟩ : ∃ E : List UInt8, Utf8.encode r = ⟨E.toArray⟩ := ⟨(Utf8.encode r).data.toList, by simp⟩
    rw [hE] at e1 e2
    have hlast : 128 ≤ (E.getD (E.length - 1) 0).toNat := by
      have h1 : E.length - 1 < E.length := by have : 2 ≤ E.length := e1; omega
      have h2 : ∀ (S : ByteArray) (hS : S = ⟨E.toArray⟩) (h : S.size - 1 < S.size), 128 ≤ (S[S.size - 1]'h).toNat → 128 ≤ (E.getD (E.length - 1) 0).toNat := by
        intro S hS h h3
        subst hS
        rw [List.getD_eq_getElem?_getD, List.getElem?_eq_getElem h1]
        exact h3
      exact h2 _ hE _ e3
    have e1' : 2 ≤ E.length := e1
    have e2' : E.length ≤ 4 := e2
    clear e1 e2 e3
    obtain ⟨last, hL⟩ : ∃ last, last = E.length - 1 := ⟨_, rfl⟩
    have hLI : (E.length : Int) - 1 = (last : Int) := by omega
    rw [← hL] at hlast
    have hL1 : 1 ≤ last ∧ last ≤ 3 := by omega
    have hLE : last < E.length := by omega
    obtain ⟨D, hD⟩ : ∃ D : UInt8, D = E.getD last 0 := ⟨_, rfl⟩
    rw [← hD] at hlast
    have hDE : E[last]'hLE = D := by rw [hD, List.getD_eq_getElem?_getD, List.getElem?_eq_getElem hLE]; rfl
    have HD := Lib.hid hD; clear hD
    have HL := Lib.hid hL; clear hL
    go_enter Tryz.func91, Tryz.ntmps91
    go_wp2_with ((go_at_call 113; refine (Tryz.utf8_ValidRune _ _).mono ?_; rintro e w' ⟨rfl, hw⟩; have hw' := hw.symm; clear hw; subst hw'))
    go_step3
    go_wp2_with fail
    try go_step3
    go_wp2_with fail
    refine wp_loop_rounds 1 ?_
    rw [rounds_succ]
    · by_cases hp : last < l.length
      · have hpI : (last : Int) < (l.length : Int) := by omega
        have hLEI : (last : Int) < (E.length : Int) := by omega
        have h0I : (0 : Int) ≤ (last : Int) := by omega
        obtain ⟨X, hX⟩ : ∃ X, X = l[last] := ⟨_, rfl⟩
        have hXl : X.toNat < 128 := by rw [hX]; exact hl _ (List.getElem_mem hp)
        have hX' : l[last] = X := hX.symm
        have hdl : decide (last < l.length) = true := by simpa using hp
        have hne2 : ((X.toNat : Int) != (D.toNat : Int)) = true := by simp; omega
        clear hX
        go_wp2_with fail
        go_step3
        go_wp2_with fail
        go_quiet (fail)
        have hno : ∀ b ∈ l.drop (last + 1), b ≠ D := by
          intro b hb e
          subst e
          have := hl b (List.mem_of_mem_drop hb)
          omega
        obtain ⟨wq, hwq⟩ : ∃ wq, wq = w.drewN nq := ⟨_, rfl⟩
        rw [← hwq]
        have HWQ := Lib.hid hwq; clear hwq
        have hp1 : (last : Int) + 1 ≤ (l.length : Int) := by omega
        have hl1 : l.length ≤ 1000000 := hlen
        go_wp2_with fail
        go_quiet ((go_at_call 37; exact Calls.quiet_of_same (indexByte_no _ D _ hno)))
        go_wp2
        simp only [Exit.noGoto_ret, Exit.inBlock, Exit.then]
        go_ret
        exact ⟨rfl, by rw [HWQ.out]; exact (((Below.refl _ _).drewN _).drewN _)⟩
      · go_wp2
        try rw [Exit.noGoto_ret]
        go_ret
        exact ⟨rfl, Below.refl _ _⟩
end Go.Proofs.YtajkgcmopmpihaaGreatDoor
namespace Go.Proofs.YtajkgcmopmpihaaGreatDoor
open Go.ChangeShapes Go.WideShapes Go.ChangeAt Go.RowKit Go.IntWalk
set_option linter.unusedVariables false
theorem cells_rune (r : Int) : Lib.runeCells r = (Lib.encodeRune r).map fun c => Value.int .u8 c.toNat := by
  unfold Lib.runeCells Lib.encodeRune
  rw [List.map_map]
  apply List.map_congr_left
  intro x hx
  have h := Lib.encodeRuneZ_byte r x hx
  show Value.int .u8 x = Value.int .u8 (x.toNat.toUInt8.toNat : Nat)
  congr 1
  have : x.toNat.toUInt8.toNat = x.toNat % 256 := by simp [Nat.toUInt8]
  rw [this]; omega
theorem len_rune4 (r : Int) : (Lib.encodeRune r).length ≤ 4 := by
  have := (Lib.encodeRuneZ_length r).2
  unfold Lib.encodeRune; rw [List.length_map]; exact this
theorem appendRune_own (base : Nat) (v : Value) (bs : List UInt8) (r : Nat) (hr : r ≤ 1114111) (w : World) (hown : OwnBs base w v bs) (hlen : bs.length ≤ 70368744177664) (hb : base ≤ w.heap.size) :
    Calls Tryz.prog 92 #[v, .int .i32 r] w fun e w' => ∃ v', e = .returned v' ∧ OwnBs base w' v' (bs ++ Lib.encodeRune (r : Int)) ∧ w.grownBy w' v.ownBlock := by
  refine (Tryz.utf8_AppendRune_plain base v _ _ (r : Int) (by omega) (by omega) w hown (by omega) hb).mono ?_
  rintro e w' ⟨v', rfl, h1, o, h2⟩
  refine ⟨v', rfl, ?_, ⟨h2.os, h2.tape, h2.output, Nat.le_trans (by simp) h2.size, fun k hk hne => (h2.block k (by simp; omega) hne).trans (heap_alloc_old w _ hk)⟩⟩
  unfold OwnBs
  rw [cells_rune] at h1
  simpa using h1
def meantF (c : UInt8) : Int := Lib.indexByte [8, 12, 10, 13, 9] c
theorem meant_low (c : UInt8) (w : World) (h : c.toNat < 128) :
    Calls Tryz.prog 91 #[.string ⟨#[8, 12, 10, 13, 9]⟩, .int .i32 c.toNat] w fun e w' => e = .returned (.int .i64 (meantF c)) ∧ Below w.heap.size w w' := by
  refine (Tryz.strings_IndexRune_ascii ⟨#[8, 12, 10, 13, 9]⟩ c.toNat w (by omega) (by omega)).mono ?_
  rintro e w' ⟨rfl, rfl⟩
  refine ⟨?_, Below.refl _ _⟩
  have : ((c.toNat : Int).toNat.toUInt8) = c := by simp
  rw [this]
  rfl
theorem meant_high (r : Nat) (w : World) (h0 : 128 ≤ r) (h1 : r ≤ 1114111) (hv : Utf8.valid (r : Int) = true) :
    Calls Tryz.prog 91 #[.string ⟨#[8, 12, 10, 13, 9]⟩, .int .i32 r] w fun e w' => e = .returned (.int .i64 (-1)) ∧ Below w.heap.size w w' :=
  indexRune_hi [8, 12, 10, 13, 9] r w (by decide) (by decide) ⟨by omega, by omega⟩ hv
theorem meant_none (c : UInt8) (h : ¬ (c = 8 ∨ c = 9 ∨ c = 10 ∨ c = 12 ∨ c = 13)) : meantF c = -1 := by
  apply indexByte_none
  intro b hb hc
  subst hc
  simp only [List.mem_cons, List.not_mem_nil, or_false] at hb
  apply h
  rcases hb with h | h | h | h | h <;> simp [h]
end Go.Proofs.YtajkgcmopmpihaaGreatDoor
namespace Go.Proofs.YtajkgcmopmpihaaGreatDoor
open Go.ChangeShapes Go.WideShapes Go.ChangeAt Go.RowKit Go.IntWalk
set_option linter.unusedVariables false
def digI (c : UInt8) : Int := match digV c with | none => -1 | some d => (d : Int)
theorem dig_low (c : UInt8) (x : Int) (w : World) (h : c.toNat < 128) (hx : x = (lowC c).toNat) :
    Calls Tryz.prog 91 #[.string ⟨#[48, 49, 50, 51, 52, 53, 54, 55, 56, 57, 97, 98, 99, 100, 101, 102]⟩, .int .i32 x] w fun e w' => e = .returned (.int .i64 (digI c)) ∧ w = w' := by
  subst hx
  have hl : (lowC c).toNat < 128 := by
    unfold lowC; split
    · simp; omega
    · exact h
  refine (Tryz.strings_IndexRune_ascii ⟨#[48, 49, 50, 51, 52, 53, 54, 55, 56, 57, 97, 98, 99, 100, 101, 102]⟩ (lowC c).toNat w (by omega) (by omega)).mono ?_
  rintro e w' ⟨rfl, rfl⟩
  refine ⟨?_, rfl⟩
  have : (((lowC c).toNat : Int).toNat.toUInt8) = lowC c := by simp
  rw [this]
  exact ret_int (dig_at c)
theorem dig_high (r : Nat) (w : World) (h0 : 128 ≤ r) (h1 : r ≤ 1114111) (hv : Utf8.valid (r : Int) = true) :
    Calls Tryz.prog 91 #[.string ⟨#[48, 49, 50, 51, 52, 53, 54, 55, 56, 57, 97, 98, 99, 100, 101, 102]⟩, .int .i32 r] w fun e w' => e = .returned (.int .i64 (-1)) ∧ Below w.heap.size w w' :=
  indexRune_hi [48, 49, 50, 51, 52, 53, 54, 55, 56, 57, 97, 98, 99, 100, 101, 102] r w (by decide) (by decide) ⟨by omega, by omega⟩ hv
def NumPost (o : Option Nat) (w : World) (e : Ending) (w' : World) : Prop := e = .returned (.tuple #[.int .i32 ((o.getD 0 : Nat) : Int), .bool o.isSome]) ∧ Below w.heap.size w w'
theorem NumPost.no {o : Option Nat} {w w' : World} (h : o = none) (hb : Below w.heap.size w w') : NumPost o w (.returned (.tuple #[.int .i32 0, .bool false])) w' := by subst h; exact ⟨rfl, hb⟩
theorem NumPost.yes {o : Option Nat} {n : Nat} {w w' : World} (h : o = some n) (hb : Below w.heap.size w w') : NumPost o w (.returned (.tuple #[.int .i32 (n : Nat), .bool true])) w' := by subst h; exact ⟨rfl, hb⟩
theorem six (m : List UInt8) (h : 6 ≤ m.length) : ∃ a b c d e f t, m = a :: b :: c :: d :: e :: f :: t := by
  match m, h with
  | a :: b :: c :: d :: e :: f :: t, _ => exact ⟨a, b, c, d, e, f, t, rfl⟩
theorem hexF_six (a b c d e f : UInt8) (t : List UInt8) : hexF (a :: b :: c :: d :: e :: f :: t) = if a = 92 ∧ b = 117 then hexN 0 [c, d, e, f] else none := by
  unfold hexF
  have : 6 ≤ (a :: b :: c :: d :: e :: f :: t).length := by simp
  by_cases h : a = 92 ∧ b = 117
  · rw [if_pos h, if_pos ⟨this, h.1, h.2⟩]; rfl
  · rw [if_neg h, if_neg (fun x => h ⟨x.2.1, x.2.2⟩)]
theorem neq8 (c d : UInt8) (h : c ≠ d) : ((c.toNat : Int) == (d.toNat : Int)) = false := by
  rw [beq_eq_false_iff_ne]; intro h2; exact h (UInt8.toNat_inj.1 (by omega))
theorem or4 (acc d : Nat) (ha : acc < 65536) (hd : d < 16) : bits .or .i32 ((acc : Int) * 16) (d : Int) = ((16 * acc + d : Nat) : Int) := by
  have h := (bits_nat .i32 31 (by decide) (fun n h0 h1 => by rw [IntKind.wrap_i32]; omega) (acc * 16) d (by omega) (by omega)).2
  have e : ((acc * 16 : Nat) : Int) = (acc : Int) * 16 := by omega
  rw [e] at h
  rw [h]
  congr 1
  have := Nat.shiftLeft_add_eq_or_of_lt (i := 4) (b := d) (by omega) acc
  rw [Nat.shiftLeft_eq] at this
  rw [show acc * 16 = acc * 2 ^ 4 from rfl, ← this]; omega
theorem num_end (w : World) (q : List UInt8) (k acc d : Nat) (X : Option Nat) (s : List UInt8) (hp : k < q.length) (hq : q.length = 4) (ha : acc < 16 ^ k) (hd : d < 16) (hs : q.drop (k + 1) = s) (hx : X = hexN (16 * acc + d) s) :
    (∃ k1 acc1 : Nat, k1 ≤ 4 ∧ acc1 < 16 ^ k1 ∧ Value.int IntKind.i32 (bits BinOp.or IntKind.i32 ((acc : Int) * 16) (d : Int)) = Value.int IntKind.i32 (acc1 : Int) ∧
      w.iter ⟨q.toArray⟩ (k + 1) = w.iter ⟨q.toArray⟩ k1 ∧ Hid (X = hexN acc1 (q.drop k1))) ∧ 4 - (w.iter ⟨q.toArray⟩ (k + 1)).iterPos w.heap.size < 4 - (w.iter ⟨q.toArray⟩ k).iterPos w.heap.size := by
  have h4 : 16 ^ (k + 1) = 16 ^ k * 16 := Nat.pow_succ ..
  have : k = 0 ∨ k = 1 ∨ k = 2 ∨ k = 3 := by omega
  have ha2 : acc < 65536 := by rcases this with rfl | rfl | rfl | rfl <;> omega
  refine ⟨⟨k + 1, 16 * acc + d, by omega, by omega, by rw [or4 acc d ha2 hd], rfl, ?_⟩, ?_⟩
  · rw [hs]; exact hx
  · simp; omega
set_option maxRecDepth 100000 in
set_option maxHeartbeats 2000000 in
theorem number_calls (m : List UInt8) (w : World) (hl : m.length ≤ 1000000) :
    Calls Tryz.prog 148 #[.string ⟨m.toArray⟩] w (NumPost (hexF m) w) := by
  by_cases h6 : m.length < 6
  · have HE : Hid (hexF m = none) := by show _ = _; unfold hexF; rw [if_neg (by omega)]
    go_enter Tryz.func148, Tryz.ntmps148
    go_wp2
    go_ret2
    exact NumPost.no HE.out (Below.refl _ _)
  · obtain ⟨a, b, c0, c1, c2, c3, t, rfl⟩ := six m (by omega)
    have HX := Lib.hid (hexF_six a b c0 c1 c2 c3 t)
    by_cases ha : a = 92
    · subst ha
      by_cases hb : b = 117
      · subst hb
        obtain ⟨q, hq⟩ : ∃ q : List UInt8, [c0, c1, c2, c3] = q := ⟨_, rfl⟩
        have hql : q.length = 4 := by rw [← hq]; rfl
        have HE : Hid (hexF (92 :: 117 :: c0 :: c1 :: c2 :: c3 :: t) = hexN 0 q) := by show _ = _; rw [HX.out, hq]; rfl
        go_enter Tryz.func148, Tryz.ntmps148
        have HQ := Lib.hid hq
        go_wp2_with fail
        clear hq HX
        go_loopw [4] (fun n wr => ∃ k acc : Nat, k ≤ 4 ∧ acc < 16 ^ k ∧ n = .int .i32 acc ∧ wr = w.iter ⟨q.toArray⟩ k ∧ Hid (hexF (92 :: 117 :: c0 :: c1 :: c2 :: c3 :: t) = hexN acc (q.drop k))) (fun _ wr => 4 - wr.iterPos w.heap.size)
        case atStart => exact ⟨0, 0, by omega, by decide, rfl, rfl, HE⟩
        case round =>
          obtain ⟨k, acc, hk, hacc, rfl, rfl, hv⟩ := hrel
          by_cases hp : k < q.length
          · have hnx := fun ty => run_next_any (P := Tryz.prog) w ⟨q.toArray⟩ k ty hp
            have hdl : Utf8.decode ⟨q.toArray⟩ k = Lib.decodeL (q.drop k) := (Lib.decodeL_drop ⟨q.toArray⟩ k).symm
            rw [hdl] at hnx
            clear hdl
            obtain ⟨c, hc⟩ : ∃ c, q[k] = c := ⟨_, rfl⟩
            obtain ⟨s, hs⟩ : ∃ s, q.drop (k + 1) = s := ⟨_, rfl⟩
            have hm : q.drop k = c :: s := by rw [List.drop_eq_getElem_cons hp, hc, hs]
            have hcl := c.toNat_lt
            rw [hm] at hnx hv
            have HS := Lib.hid hs
            clear hm hc hs
            have ha : acc < 4096 := by
              have : k = 0 ∨ k = 1 ∨ k = 2 ∨ k = 3 := by omega
              rcases this with rfl | rfl | rfl | rfl <;> omega
            by_cases hlow : c.toNat < 128
            · have hd := Lib.decodeL_ascii c s hlow
              rw [hd] at hnx
              simp only at hnx
              clear hd
              by_cases hup : 65 ≤ c.toNat ∧ c.toNat ≤ 70
              · have hx : ((c.toNat : Int) + 32) = (lowC c).toNat := by unfold lowC; rw [if_pos hup]; simp; omega
                have HX := Lib.hid hx
                clear hx
                go_wp2_with fail
                refine (dig_low c _ _ hlow HX.out).mono ?_
                rintro e w1 ⟨rfl, rfl⟩
                cases hd : digV c with
                | none =>
                  have hdi : digI c = -1 := by unfold digI; rw [hd]
                  have HE2 : Hid (hexF (92 :: 117 :: c0 :: c1 :: c2 :: c3 :: t) = none) := hv.out.trans (hexN_none hd)
                  rw [hdi]
                  clear hd hdi
                  go_wp2
                  go_ret2
                  exact NumPost.no HE2.out ((Below.refl _ _).alloc (Nat.le_refl _) _)
                | some d =>
                  have hdi : digI c = d := by unfold digI; rw [hd]
                  have hdl := (digV_lt hd).1
                  have HE2 : Hid (hexF (92 :: 117 :: c0 :: c1 :: c2 :: c3 :: t) = hexN (16 * acc + d) s) := hv.out.trans (hexN_some hd)
                  rw [hdi]
                  clear hd hdi
                  go_wp2_with fail
                  exact num_end w q k acc d _ s hp hql hacc hdl HS.out HE2.out
              · have hx : (c.toNat : Int) = (lowC c).toNat := by unfold lowC; rw [if_neg hup]
                have HX := Lib.hid hx
                clear hx
                have hparts : ((65 : Int) ≤ (c.toNat : Int) ∧ ¬ (c.toNat : Int) ≤ 70) ∨ ¬ (65 : Int) ≤ (c.toNat : Int) := by omega
                have HUP := Lib.hid hup
                clear hup
                rcases hparts with ⟨g1, g2⟩ | g1
                all_goals
                  go_wp2_with fail
                  refine (dig_low c _ _ hlow HX.out).mono ?_
                  rintro e w1 ⟨rfl, rfl⟩
                  cases hd : digV c with
                  | none =>
                    have hdi : digI c = -1 := by unfold digI; rw [hd]
                    have HE2 : Hid (hexF (92 :: 117 :: c0 :: c1 :: c2 :: c3 :: t) = none) := hv.out.trans (hexN_none hd)
                    rw [hdi]
                    clear hd hdi
                    go_wp2
                    go_ret2
                    exact NumPost.no HE2.out ((Below.refl _ _).alloc (Nat.le_refl _) _)
                  | some d =>
                    have hdi : digI c = d := by unfold digI; rw [hd]
                    have hdl := (digV_lt hd).1
                    have HE2 : Hid (hexF (92 :: 117 :: c0 :: c1 :: c2 :: c3 :: t) = hexN (16 * acc + d) s) := hv.out.trans (hexN_some hd)
                    rw [hdi]
                    clear hd hdi
                    go_wp2_with fail
                    exact num_end w q k acc d _ s hp hql hacc hdl HS.out HE2.out
            · obtain ⟨h1, h2, h3⟩ := rune_hi c s (by omega)
              obtain ⟨⟨r, d⟩, hrd⟩ : ∃ p, Lib.decodeL (c :: s) = p := ⟨_, rfl⟩
              rw [hrd] at hnx h1 h2 h3
              simp only at hnx h1 h2 h3
              clear hrd
              have n00 : decide ((65 : Int) ≤ (r : Int)) = true := decide_eq_true (by omega)
              have n0 : decide ((r : Int) ≤ 70) = false := decide_eq_false (by omega)
              have HE2 : Hid (hexF (92 :: 117 :: c0 :: c1 :: c2 :: c3 :: t) = none) := hv.out.trans (hexN_none (dig_hi c (by omega)))
              have H3 := Lib.hid h3
              have H1 := Lib.hid h1
              have H2 := Lib.hid h2
              clear h1 h2 h3 hv hlow hacc
              go_wp2_with fail
              refine (dig_high r _ H1.out H2.out H3.out).mono ?_
              rintro e w1 ⟨rfl, b1⟩
              go_wp2
              go_ret2
              exact NumPost.no HE2.out (((Below.refl _ _).alloc (Nat.le_refl _) _).then_ b1)
          · have hnx := fun ty => run_next_end (P := Tryz.prog) w ⟨q.toArray⟩ k ty hp
            have HE2 : Hid (hexF (92 :: 117 :: c0 :: c1 :: c2 :: c3 :: t) = some acc) := by
              show _ = _
              rw [hv.out, List.drop_of_length_le (by omega)]; rfl
            go_wp2
            go_ret2
            exact NumPost.yes HE2.out ((Below.refl _ _).alloc (Nat.le_refl _) _)
      · have n1 : ((b.toNat : Int) != 117) = true := by rw [bne_iff_ne]; intro h; exact hb (UInt8.toNat_inj.1 (by have : (117 : UInt8).toNat = 117 := rfl; omega))
        have HE : Hid (hexF (92 :: b :: c0 :: c1 :: c2 :: c3 :: t) = none) := HX.out.trans (if_neg fun h => hb h.2)
        go_enter Tryz.func148, Tryz.ntmps148
        go_wp2
        go_ret2
        exact NumPost.no HE.out (Below.refl _ _)
    · have n1 : ((a.toNat : Int) != 92) = true := by rw [bne_iff_ne]; intro h; exact ha (UInt8.toNat_inj.1 (by have : (92 : UInt8).toNat = 92 := rfl; omega))
      have HE : Hid (hexF (a :: b :: c0 :: c1 :: c2 :: c3 :: t) = none) := HX.out.trans (if_neg fun h => ha h.1)
      go_enter Tryz.func148, Tryz.ntmps148
      go_wp2
      go_ret2
      exact NumPost.no HE.out (Below.refl _ _)
def RunePost (p : Nat × Nat) (w : World) (e : Ending) (w' : World) : Prop := e = .returned (.tuple #[.int .i32 (p.1 : Nat), .int .i64 (p.2 : Nat)]) ∧ Below w.heap.size w w'
theorem RunePost.of {p q : Nat × Nat} {w w' : World} (h : q = p) (hb : Below w.heap.size w w') : RunePost q w (.returned (.tuple #[.int .i32 (p.1 : Nat), .int .i64 (p.2 : Nat)])) w' := by subst h; exact ⟨rfl, hb⟩
theorem pair_val (n k : Nat) (h : 55296 ≤ n ∧ n < 56320) (h2 : 56320 ≤ k ∧ k < 57344) :
    wrap32 (wrap32 (65536 + wrap32 (wrap32 ((n : Int) - 55296) * 1024)) + wrap32 ((k : Int) - 56320)) = ((65536 + 1024 * (n - 55296) + (k - 56320) : Nat) : Int) := by
  unfold wrap32; omega
set_option maxHeartbeats 2000000 in
theorem numbered_calls (m : List UInt8) (w : World) (hl : m.length ≤ 1000000) :
    Calls Tryz.prog 127 #[.string ⟨m.toArray⟩] w (RunePost (numF m) w) := by
  cases h1 : hexF m with
  | none =>
    have H1 := Lib.hid h1
    have HE : Hid (numF m = (0, 0)) := by show _ = _; unfold numF; rw [h1]
    clear h1
    go_enter Tryz.func127, Tryz.ntmps127
    go_wp2_with fail
    refine (number_calls m _ hl).mono ?_
    rw [H1.out]
    rintro e w1 ⟨rfl, b1⟩
    go_wp2
    go_ret2
    exact RunePost.of (p := (0, 0)) HE.out b1
  | some n =>
    obtain ⟨a1, a2, a3⟩ := hexF_some h1
    have H1 := Lib.hid h1
    clear a3
    by_cases c1 : 56320 ≤ n ∧ n < 57344
    · have HE : Hid (numF m = (0, 0)) := by show _ = _; unfold numF; rw [h1]; simp only []; rw [if_pos c1]
      clear h1
      have g1 : (56320 : Int) ≤ (n : Int) := by omega
      have g2 : (n : Int) < 57344 := by omega
      clear c1 a1
      go_enter Tryz.func127, Tryz.ntmps127
      go_wp2_with fail
      refine (number_calls m _ hl).mono ?_
      rw [H1.out]
      rintro e w1 ⟨rfl, b1⟩
      go_wp2
      go_ret2
      exact RunePost.of (p := (0, 0)) HE.out b1
    · by_cases c2 : n < 55296 ∨ 57344 ≤ n
      · have HE : Hid (numF m = (n, 6)) := by show _ = _; unfold numF; rw [h1]; simp only []; rw [if_neg c1, if_pos c2]
        clear h1
        have c3 : (decide ((56320 : Int) ≤ n) = false ∧ decide ((n : Int) < 55296) = true) ∨ ((decide ((56320 : Int) ≤ n) = true ∧ decide ((n : Int) < 57344) = false) ∧ decide ((n : Int) < 55296) = false ∧ decide ((57344 : Int) ≤ n) = true) := by
          simp only [decide_eq_true_eq, decide_eq_false_iff_not]; omega
        clear c1 c2 a1
        rcases c3 with ⟨g, g0⟩ | ⟨⟨g, g0⟩, g1, g2⟩
        all_goals
          go_enter Tryz.func127, Tryz.ntmps127
          go_wp2_with fail
          refine (number_calls m _ hl).mono ?_
          rw [H1.out]
          rintro e w1 ⟨rfl, b1⟩
          go_wp2
          go_ret2
          exact RunePost.of (p := (n, 6)) HE.out b1
      · have hml : (m.drop 6).length ≤ 1000000 := by rw [List.length_drop]; omega
        have g1 : decide ((56320 : Int) ≤ n) = false := decide_eq_false (by omega)
        have g2 : decide ((n : Int) < 55296) = false := decide_eq_false (by omega)
        have g3 : decide ((57344 : Int) ≤ n) = false := decide_eq_false (by omega)
        have HC := Lib.hid (And.intro c1 c2)
        clear c1 c2 a1
        cases h2 : hexF (m.drop 6) with
        | none =>
          have H2 := Lib.hid h2
          have HE : Hid (numF m = (0, 0)) := by show _ = _; unfold numF; rw [h1]; simp only []; rw [if_neg HC.out.1, if_neg HC.out.2, h2]
          clear h1 h2
          go_enter Tryz.func127, Tryz.ntmps127
          go_wp2_with fail
          refine (number_calls m _ hl).mono ?_
          rw [H1.out]
          rintro e w1 ⟨rfl, b1⟩
          go_wp2_with fail
          refine (number_calls (m.drop 6) _ hml).mono ?_
          rw [H2.out]
          rintro e w2 ⟨rfl, b2⟩
          go_wp2
          go_ret2
          exact RunePost.of (p := (0, 0)) HE.out (b1.then_ b2)
        | some k =>
          have H2 := Lib.hid h2
          by_cases c3 : 56320 ≤ k ∧ k < 57344
          · have HE : Hid (numF m = (65536 + 1024 * (n - 55296) + (k - 56320), 12)) := by show _ = _; unfold numF; rw [h1]; simp only []; rw [if_neg HC.out.1, if_neg HC.out.2, h2]; simp only []; rw [if_pos c3]
            clear h1 h2
            have g4 : decide ((k : Int) < 56320) = false := decide_eq_false (by omega)
            have g5 : decide ((57344 : Int) ≤ k) = false := decide_eq_false (by omega)
            have HP : Hid ((55296 ≤ n ∧ n < 56320) ∧ 56320 ≤ k ∧ k < 57344) := by show _ ∧ _; have := HC.out; omega
            clear c3
            go_enter Tryz.func127, Tryz.ntmps127
            go_wp2_with fail
            refine (number_calls m _ hl).mono ?_
            rw [H1.out]
            rintro e w1 ⟨rfl, b1⟩
            go_wp2_with fail
            refine (number_calls (m.drop 6) _ hml).mono ?_
            rw [H2.out]
            rintro e w2 ⟨rfl, b2⟩
            go_wp2
            go_ret2
            rw [pair_val n k HP.out.1 HP.out.2]
            exact RunePost.of (p := (65536 + 1024 * (n - 55296) + (k - 56320), 12)) HE.out (b1.then_ b2)
          · have HE : Hid (numF m = (0, 0)) := by show _ = _; unfold numF; rw [h1]; simp only []; rw [if_neg HC.out.1, if_neg HC.out.2, h2]; simp only []; rw [if_neg c3]
            have hk := (hexF_some h2).1
            have c4 : (decide ((k : Int) < 56320) = true) ∨ (decide ((k : Int) < 56320) = false ∧ decide ((57344 : Int) ≤ k) = true) := by simp only [decide_eq_true_eq, decide_eq_false_iff_not]; omega
            clear c3 hk h1 h2
            rcases c4 with g | ⟨g0, g⟩
            all_goals
              go_enter Tryz.func127, Tryz.ntmps127
              go_wp2_with fail
              refine (number_calls m _ hl).mono ?_
              rw [H1.out]
              rintro e w1 ⟨rfl, b1⟩
              go_wp2_with fail
              refine (number_calls (m.drop 6) _ hml).mono ?_
              rw [H2.out]
              rintro e w2 ⟨rfl, b2⟩
              go_wp2
              go_ret2
              exact RunePost.of (p := (0, 0)) HE.out (b1.then_ b2)
theorem ix_q (b : UInt8) (w : World) :
    Calls Tryz.prog 37 #[.string ⟨#[34, 92, 47]⟩, .int .u8 b.toNat] w fun e w' => e = .returned (.int .i64 (Lib.indexByte [34, 92, 47] b)) ∧ w = w' := by
  refine (Tryz.strings_IndexByte ⟨#[34, 92, 47]⟩ b.toNat w).mono ?_
  rintro e w' ⟨rfl, rfl⟩
  exact ⟨by simp, rfl⟩
theorem ix_s (b : UInt8) (w : World) :
    Calls Tryz.prog 37 #[.string ⟨#[98, 102, 110, 114, 116]⟩, .int .u8 b.toNat] w fun e w' => e = .returned (.int .i64 (Lib.indexByte [98, 102, 110, 114, 116] b)) ∧ w = w' := by
  refine (Tryz.strings_IndexByte ⟨#[98, 102, 110, 114, 116]⟩ b.toNat w).mono ?_
  rintro e w' ⟨rfl, rfl⟩
  exact ⟨by simp, rfl⟩
theorem two (m : List UInt8) (h : ¬ m.length < 2) : ∃ a b t, m = a :: b :: t := by
  match m, h with
  | a :: b :: t, _ => exact ⟨a, b, t, rfl⟩
  | [], h => exact absurd (by simp) h
  | [_], h => exact absurd (by simp) h
theorem escF_two (a b : UInt8) (t : List UInt8) : escF (a :: b :: t) = match shortF b with | some c => (c.toNat, 2) | none => numF (a :: b :: t) := by
  unfold escF
  rw [if_neg (by simp)]
  rfl
theorem numF_no (a b : UInt8) (t : List UInt8) (h : b ≠ 117) : numF (a :: b :: t) = (0, 0) := by
  have : hexF (a :: b :: t) = none := by unfold hexF; rw [if_neg (fun x => h x.2.2)]
  unfold numF; rw [this]
set_option maxHeartbeats 2000000 in
theorem escaped_calls (m : List UInt8) (w : World) (hl : m.length ≤ 1000000) :
    Calls Tryz.prog 98 #[.string ⟨m.toArray⟩] w (RunePost (escF m) w) := by
  by_cases h2 : m.length < 2
  · have HE : Hid (escF m = (0, 0)) := by show _ = _; unfold escF; rw [if_pos h2]
    go_enter Tryz.func98, Tryz.ntmps98
    go_wp2
    go_ret2
    exact RunePost.of (p := (0, 0)) HE.out (Below.refl _ _)
  · obtain ⟨a, b, t, rfl⟩ := two m h2
    have HX := Lib.hid (escF_two a b t)
    by_cases hu : b = 117
    · subst hu
      have HE : Hid (escF (a :: 117 :: t) = numF (a :: 117 :: t)) := HX.out
      go_enter Tryz.func98, Tryz.ntmps98
      go_wp2_with fail
      refine (numbered_calls _ _ hl).mono ?_
      rintro e w1 ⟨rfl, b1⟩
      go_wp2
      go_ret2
      exact RunePost.of (p := numF (a :: 117 :: t)) HE.out b1
    · have n1 : ((b.toNat : Int) == 117) = false := neq8 b 117 hu
      have HU := Lib.hid hu
      clear hu
      by_cases hq : b = 34 ∨ b = 92 ∨ b = 47
      · have H0 : ∃ i : Nat, Lib.indexByte [34, 92, 47] b = (i : Int) ∧ shortF b = some b := by
          rcases hq with rfl | rfl | rfl
          · exact ⟨0, by decide, by decide⟩
          · exact ⟨1, by decide, by decide⟩
          · exact ⟨2, by decide, by decide⟩
        obtain ⟨i, h1, h2⟩ := H0
        have HE : Hid (escF (a :: b :: t) = (b.toNat, 2)) := by show _ = _; rw [HX.out, h2]
        have H1 := Lib.hid h1
        have hbl := b.toNat_lt
        clear h1 h2 hq
        go_enter Tryz.func98, Tryz.ntmps98
        go_wp2_with fail
        refine (ix_q _ _).mono ?_
        rintro e w1 ⟨rfl, rfl⟩
        rw [H1.out]
        go_wp2
        go_ret2
        exact RunePost.of (p := (_, 2)) HE.out (Below.refl _ _)
      · by_cases hs : b = 98 ∨ b = 102 ∨ b = 110 ∨ b = 114 ∨ b = 116
        · have H1 : Hid (Lib.indexByte [34, 92, 47] b = -1) := by
            apply indexByte_none
            intro d hd he; subst he
            simp only [List.mem_cons, List.not_mem_nil, or_false] at hd
            exact hq hd
          have H0 : (Lib.indexByte [98, 102, 110, 114, 116] b = 0 ∧ escF (a :: b :: t) = (8, 2)) ∨ (Lib.indexByte [98, 102, 110, 114, 116] b = 1 ∧ escF (a :: b :: t) = (12, 2)) ∨ (Lib.indexByte [98, 102, 110, 114, 116] b = 2 ∧ escF (a :: b :: t) = (10, 2)) ∨
              (Lib.indexByte [98, 102, 110, 114, 116] b = 3 ∧ escF (a :: b :: t) = (13, 2)) ∨ (Lib.indexByte [98, 102, 110, 114, 116] b = 4 ∧ escF (a :: b :: t) = (9, 2)) := by
            rw [HX.out]
            rcases hs with rfl | rfl | rfl | rfl | rfl
            · exact .inl ⟨by decide, rfl⟩
            · exact .inr (.inl ⟨by decide, rfl⟩)
            · exact .inr (.inr (.inl ⟨by decide, rfl⟩))
            · exact .inr (.inr (.inr (.inl ⟨by decide, rfl⟩)))
            · exact .inr (.inr (.inr (.inr ⟨by decide, rfl⟩)))
          clear hq hs
          rcases H0 with ⟨h1, h2⟩ | ⟨h1, h2⟩ | ⟨h1, h2⟩ | ⟨h1, h2⟩ | ⟨h1, h2⟩
          all_goals
            have H2 := Lib.hid h1
            have HE := Lib.hid h2
            clear h1 h2
            go_enter Tryz.func98, Tryz.ntmps98
            go_wp2_with fail
            refine (ix_q _ _).mono ?_
            rintro e w1 ⟨rfl, rfl⟩
            rw [H1.out]
            go_wp2_with fail
            refine (ix_s _ _).mono ?_
            rintro e w1 ⟨rfl, rfl⟩
            rw [H2.out]
            go_wp2
            go_ret2
            exact RunePost.of (p := (_, 2)) HE.out (Below.refl _ _)
        · have H1 : Hid (Lib.indexByte [34, 92, 47] b = -1) := by
            apply indexByte_none
            intro d hd he; subst he
            simp only [List.mem_cons, List.not_mem_nil, or_false] at hd
            exact hq hd
          have H2 : Hid (Lib.indexByte [98, 102, 110, 114, 116] b = -1) := by
            apply indexByte_none
            intro d hd he; subst he
            simp only [List.mem_cons, List.not_mem_nil, or_false] at hd
            exact hs hd
          have HE : Hid (escF (a :: b :: t) = (0, 0)) := by
            show _ = _
            have : shortF b = none := by
              unfold shortF
              rw [if_neg (fun h => hq (.inl h)), if_neg (fun h => hq (.inr (.inl h))), if_neg (fun h => hq (.inr (.inr h))), if_neg (fun h => hs (.inl h)), if_neg (fun h => hs (.inr (.inl h))), if_neg (fun h => hs (.inr (.inr (.inl h)))), if_neg (fun h => hs (.inr (.inr (.inr (.inl h))))), if_neg (fun h => hs (.inr (.inr (.inr (.inr h)))))]
            rw [HX.out, this]
            exact numF_no a b t HU.out
          clear hq hs
          go_enter Tryz.func98, Tryz.ntmps98
          go_wp2_with fail
          refine (ix_q _ _).mono ?_
          rintro e w1 ⟨rfl, rfl⟩
          rw [H1.out]
          go_wp2_with fail
          refine (ix_s _ _).mono ?_
          rintro e w1 ⟨rfl, rfl⟩
          rw [H2.out]
          go_wp2
          go_ret2
          exact RunePost.of (p := (0, 0)) HE.out (Below.refl _ _)
end Go.Proofs.YtajkgcmopmpihaaGreatDoor
