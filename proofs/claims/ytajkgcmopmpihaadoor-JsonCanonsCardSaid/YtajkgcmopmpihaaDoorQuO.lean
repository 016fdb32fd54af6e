/- Layer 8: the document's way to put a text between quotes. -/
import Derived.Test.YtajkgcmopmpihaaDoorQuV
import Derived.Test.YtajkgcmopmpihaaDoorQuE
import Derived.Test.YtajkgcmopmpihaaDoorLit
namespace Go.Proofs.YtajkgcmopmpihaaDoor
open Go.ChangeShapes Go.WideShapes Go.ChangeAt Go.RowKit Go.IntWalk
set_option linter.unusedVariables false

def PutPost (l : List UInt8) (w : World) (e : Ending) (w' : World) : Prop := e = .returned (.tuple #[.string ⟨(putF l).toArray⟩, .bool (Lib.validD l)]) ∧ Below w.heap.size w w'
theorem PutPost.no {l : List UInt8} {w w' : World} (h : Lib.validD l = false) (hb : Below w.heap.size w w') : PutPost l w (.returned (.tuple #[.string ⟨#[]⟩, .bool false])) w' := by
  unfold PutPost putF; rw [h]; exact ⟨rfl, hb⟩
theorem PutPost.yes {l m : List UInt8} {w w' : World} (h : Lib.validD l = true) (hm : m = 34 :: escL l ++ [34]) (hb : Below w.heap.size w w') : PutPost l w (.returned (.tuple #[.string ⟨m.toArray⟩, .bool true])) w' := by
  unfold PutPost putF; rw [h, hm]; exact ⟨rfl, hb⟩
theorem own_quote (base : Nat) (w : World) (hb : base ≤ w.heap.size) : OwnBs base (w.alloc (.cells #[.int .u8 34] 5)) (.slice (some ⟨w.heap.size, 0, none⟩) 1 1) [34] := by
  refine BlkBs.own (g := w.heap.size) ?_ hb rfl (by unfold maxLen; omega)
  exact heap_alloc_new w _

theorem hex_get : ∀ j : Fin 16, ((⟨#[48, 49, 50, 51, 52, 53, 54, 55, 56, 57, 97, 98, 99, 100, 101, 102]⟩ : ByteArray)[j.val]'j.isLt) = hexB j.val := by decide
theorem hex_index (i : Int) (j : Nat) (W : World) (hi : i = (j : Int)) (hj : j < 16) (k : IntKind) :
    (Instr.index 9 (.string ⟨#[48, 49, 50, 51, 52, 53, 54, 55, 56, 57, 97, 98, 99, 100, 101, 102]⟩) (.int k i)).run Tryd.prog W = .ok (.int .u8 (hexB j).toNat) W := by
  subst hi
  rw [run_index_string W 9 _ k _ Tryd.underlying9, dif_pos ⟨by omega, by show (j : Int) < (16 : Nat); omega⟩]
  have := hex_get ⟨j, hj⟩
  simp only [Int.toNat_natCast]
  rw [this]

set_option maxHeartbeats 4000000 in
theorem refput_calls (l : List UInt8) (w : World) (hl : l.length ≤ 1000000) :
    Calls Tryd.prog 26 #[.string ⟨l.toArray⟩] w (PutPost l w) := by
  cases hv : Lib.validD l with
  | false =>
    have HV := Lib.hid hv; clear hv
    go_enter Tryd.func26, Tryd.ntmps26
    go_wp2_with fail
    refine (refvalid_calls l _ hl).mono ?_
    rintro e w1 ⟨rfl, rfl⟩
    rw [HV.out]
    go_wp2
    go_ret2
    exact PutPost.no HV.out (Below.refl _ _)
  | true =>
    have HV := Lib.hid hv; clear hv
    go_enter Tryd.func26, Tryd.ntmps26
    go_wp2_with fail
    refine (refvalid_calls l _ hl).mono ?_
    rintro e w1 ⟨rfl, rfl⟩
    rw [HV.out]
    go_wp2_with fail
    have hown0 := own_quote w.heap.size w (Nat.le_refl _)
    have hb0 : Below w.heap.size w (w.alloc (.cells #[.int .u8 34] 5)) := (Below.refl _ _).alloc (Nat.le_refl _) _
    go_loopw [5, 6] (fun v i wr => ∃ k, k ≤ l.length ∧ i = .int .i64 k ∧ OwnBs w.heap.size wr v (34 :: escL (l.take k)) ∧ Below w.heap.size w wr) (fun _ i _ => l.length - (intOf i).toNat)
    case atStart => exact ⟨0, Nat.zero_le _, rfl, by simpa [escL] using hown0, hb0⟩
    case round =>
      clear hown0 hb0
      obtain ⟨k, hk, rfl, hown, hbr⟩ := hrel
      have hsz := hbr.size
      have hlen := escL_take_len l k hk
      have hlen1 : (34 :: escL (l.take k)).length ≤ 6 * k + 1 := by simp; omega
      by_cases hp : k < l.length
      · have HT := Lib.hid (escL_take l k hp)
        obtain ⟨c, hc⟩ : ∃ c, l[k] = c := ⟨_, rfl⟩
        rw [hc] at HT
        have hcl := c.toNat_lt
        by_cases h34 : c = 34 ∨ c = 92
        · have HE : Hid (escB c = [92, c]) := by show _ = _; unfold escB; rw [if_pos h34]
          have hb : ((c.toNat : Int) == 34) = true ∨ (((c.toNat : Int) == 34) = false ∧ ((c.toNat : Int) == 92) = true) := by
            rcases h34 with rfl | rfl
            · exact .inl (by decide)
            · exact .inr ⟨by decide, by decide⟩
          clear h34
          rcases hb with h1 | ⟨h1, h2⟩
          all_goals
            go_wp2_with (at_builtin; (refine wpList_append_lit rfl _ _ rfl _ _ _ rfl hown [92, c] _ rfl 2 rfl rfl (by omega) (by omega) ?_; intro v' w2 hown' hgrow'))
            rw [List.cons_append, ← HE.out, ← HT.out] at hown'
            have hb3 : Below w.heap.size w w2 := hbr.grown hgrow' hsz (fun k hk => (hown.lt k hk).1)
            exact ⟨⟨k + 1, by omega, by go_num, hown', hb3⟩, by simp [intOf]; omega⟩
        · by_cases hsp : c = 8 ∨ c = 9 ∨ c = 10 ∨ c = 12 ∨ c = 13
          · clear h34
            rcases hsp with rfl | rfl | rfl | rfl | rfl
            · have HE : Hid (escB 8 = [92, 98]) := by show _ = _; decide
              go_wp2_with (at_builtin; (refine wpList_append_lit rfl _ _ rfl _ _ _ rfl hown [92, 98] _ rfl 2 rfl rfl (by omega) (by omega) ?_; intro v' w2 hown' hgrow'))
              rw [List.cons_append, ← HE.out, ← HT.out] at hown'
              have hb3 : Below w.heap.size w w2 := hbr.grown hgrow' hsz (fun k hk => (hown.lt k hk).1)
              exact ⟨⟨k + 1, by omega, by go_num, hown', hb3⟩, by simp [intOf]; omega⟩
            · have HE : Hid (escB 9 = [92, 116]) := by show _ = _; decide
              go_wp2_with (at_builtin; (refine wpList_append_lit rfl _ _ rfl _ _ _ rfl hown [92, 116] _ rfl 2 rfl rfl (by omega) (by omega) ?_; intro v' w2 hown' hgrow'))
              rw [List.cons_append, ← HE.out, ← HT.out] at hown'
              have hb3 : Below w.heap.size w w2 := hbr.grown hgrow' hsz (fun k hk => (hown.lt k hk).1)
              exact ⟨⟨k + 1, by omega, by go_num, hown', hb3⟩, by simp [intOf]; omega⟩
            · have HE : Hid (escB 10 = [92, 110]) := by show _ = _; decide
              go_wp2_with (at_builtin; (refine wpList_append_lit rfl _ _ rfl _ _ _ rfl hown [92, 110] _ rfl 2 rfl rfl (by omega) (by omega) ?_; intro v' w2 hown' hgrow'))
              rw [List.cons_append, ← HE.out, ← HT.out] at hown'
              have hb3 : Below w.heap.size w w2 := hbr.grown hgrow' hsz (fun k hk => (hown.lt k hk).1)
              exact ⟨⟨k + 1, by omega, by go_num, hown', hb3⟩, by simp [intOf]; omega⟩
            · have HE : Hid (escB 12 = [92, 102]) := by show _ = _; decide
              go_wp2_with (at_builtin; (refine wpList_append_lit rfl _ _ rfl _ _ _ rfl hown [92, 102] _ rfl 2 rfl rfl (by omega) (by omega) ?_; intro v' w2 hown' hgrow'))
              rw [List.cons_append, ← HE.out, ← HT.out] at hown'
              have hb3 : Below w.heap.size w w2 := hbr.grown hgrow' hsz (fun k hk => (hown.lt k hk).1)
              exact ⟨⟨k + 1, by omega, by go_num, hown', hb3⟩, by simp [intOf]; omega⟩
            · have HE : Hid (escB 13 = [92, 114]) := by show _ = _; decide
              go_wp2_with (at_builtin; (refine wpList_append_lit rfl _ _ rfl _ _ _ rfl hown [92, 114] _ rfl 2 rfl rfl (by omega) (by omega) ?_; intro v' w2 hown' hgrow'))
              rw [List.cons_append, ← HE.out, ← HT.out] at hown'
              have hb3 : Below w.heap.size w w2 := hbr.grown hgrow' hsz (fun k hk => (hown.lt k hk).1)
              exact ⟨⟨k + 1, by omega, by go_num, hown', hb3⟩, by simp [intOf]; omega⟩
          · have q8 : ∀ d : UInt8, c ≠ d → ((c.toNat : Int) == (d.toNat : Int)) = false := fun d hd => by
              rw [beq_eq_false_iff_ne]; intro h; exact hd (UInt8.toNat_inj.1 (by omega))
            have n1 : ((c.toNat : Int) == 34) = false := q8 34 (fun h => h34 (.inl h))
            have n2 : ((c.toNat : Int) == 92) = false := q8 92 (fun h => h34 (.inr h))
            have n3 : ((c.toNat : Int) == 8) = false := q8 8 (fun h => hsp (.inl h))
            have n4 : ((c.toNat : Int) == 9) = false := q8 9 (fun h => hsp (.inr (.inl h)))
            have n5 : ((c.toNat : Int) == 10) = false := q8 10 (fun h => hsp (.inr (.inr (.inl h))))
            have n6 : ((c.toNat : Int) == 12) = false := q8 12 (fun h => hsp (.inr (.inr (.inr (.inl h)))))
            have n7 : ((c.toNat : Int) == 13) = false := q8 13 (fun h => hsp (.inr (.inr (.inr (.inr h)))))
            have HE0 : Hid (escB c = if c.toNat < 32 then [92, 117, 48, 48, hexB (c.toNat / 16), hexB (c.toNat % 16)] else [c]) := by
              show _ = _
              unfold escB
              rw [if_neg h34, if_neg (fun h => hsp (.inl h)), if_neg (fun h => hsp (.inr (.inl h))), if_neg (fun h => hsp (.inr (.inr (.inl h)))), if_neg (fun h => hsp (.inr (.inr (.inr (.inl h))))), if_neg (fun h => hsp (.inr (.inr (.inr (.inr h)))))]
            clear q8 h34 hsp
            by_cases h32 : c.toNat < 32
            · have HE : Hid (escB c = [92, 117, 48, 48, hexB (c.toNat / 16), hexB (c.toNat % 16)]) := HE0.out.trans (if_pos h32)
              clear HE0
              have hW : IntKind.u8.wrap ((c.toNat : Int) / 16) = (c.toNat : Int) / 16 := by rw [IntKind.wrap_u8]; omega
              have hM : (c.toNat : Int).tmod 16 = (c.toNat : Int) % 16 := Int.tmod_eq_emod_of_nonneg (by omega)
              have hx1 := fun W => hex_index ((c.toNat : Int) / 16) (c.toNat / 16) W (by omega) (by omega) .u8
              have hx2 := fun W => hex_index ((c.toNat : Int) % 16) (c.toNat % 16) W (by omega) (by omega) .u8
              go_wp2_with fail
              go_region_held3 (fun _ => True) (trivial)
                ((refine step_append_lit (by rfl) _ _ (by rfl) w.heap.size _ _ (by rfl) (by first | exact World.ownsRow.alloc hown _ | exact (World.ownsRow.alloc hown _).drew | exact ((World.ownsRow.alloc hown _).drew).drew) ⟨wr.heap.size, 0, none⟩
                    [92, 117, 48, 48, hexB (c.toNat / 16), hexB (c.toNat % 16)] 6 6 (by rfl) (rb_const wr _ _ rfl (0, 0)) (by rfl) (by omega) (by omega) (by simp; omega) ?_; intro v' w2 hown' hgrow'))
              all_goals go_wp2
              all_goals
                rw [List.cons_append, ← HE.out, ← HT.out] at hown'
                have hb3 : Below w.heap.size w w2 := Below.grown (by first | exact hbr.alloc hsz _ | exact (hbr.alloc hsz _).drew) hgrow' (by simp; omega) (fun k hk => (hown.lt k hk).1)
                exact ⟨⟨k + 1, by omega, by go_num, hown', hb3⟩, by simp [intOf]; omega⟩
            · have HE : Hid (escB c = [c]) := HE0.out.trans (if_neg h32)
              clear HE0
              go_wp2_with (at_builtin; (refine wpList_append_lit rfl _ _ rfl _ _ _ rfl hown [c] _ rfl 1 rfl rfl (by omega) (by omega) ?_; intro v' w2 hown' hgrow'))
              rw [List.cons_append, ← HE.out, ← HT.out] at hown'
              have hb3 : Below w.heap.size w w2 := hbr.grown hgrow' hsz (fun k hk => (hown.lt k hk).1)
              exact ⟨⟨k + 1, by omega, by go_num, hown', hb3⟩, by simp [intOf]; omega⟩
      · have hkl : k = l.length := by omega
        rw [hkl, List.take_length] at hown hlen1
        go_wp2_with (at_builtin; (refine wpList_append_lit rfl _ _ rfl _ _ _ rfl hown [34] _ rfl 1 rfl rfl (by omega) (by omega) ?_; intro v' w2 hown' hgrow'))
        obtain ⟨A, n, cap, rfl, hrb, hn⟩ := hown'.form
        have hstr := run_str_rb w2 A n cap _ hrb hn
        have hb3 : Below w.heap.size w w2 := hbr.grown hgrow' hsz (fun k hk => (hown.lt k hk).1)
        go_simp
        go_wp2
        go_ret2
        exact PutPost.yes HV.out rfl hb3
end Go.Proofs.YtajkgcmopmpihaaDoor
