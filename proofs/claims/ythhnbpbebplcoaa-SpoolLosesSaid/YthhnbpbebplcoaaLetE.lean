/- Contracts of Decode of letters. -/
import Derived.Test.YthhnbpbebplcoaaAid
import Derived.Test.YthhnbpbebplcoaaLetP
import Derived.WalkSmall
import Derived.Lib.OthersKept
namespace Go.Proofs.Ythhnbpbebplcoaa
open Go.ChangeShapes Go.WideShapes Go.ChangeAt Go.RowKit Go.IntWalk
set_option linter.unusedVariables false

set_option maxHeartbeats 1000000 in
theorem number_calls (r : Int) (u : Bool) (w : World) (h : -2147483648 ≤ r ∧ r ≤ 2147483647) :
    Calls Try.prog 46 #[.int .i32 r, .bool u] w fun e w' => e = .returned (.tuple #[.int .u32 ((numF u r).getD 0 : Nat), .bool (numF u r).isSome]) ∧ w = w' := by
  cases u
  all_goals
    go_enter Try.func46, Try.ntmps46
    go_wp2
    all_goals go_ret2
    all_goals refine ⟨congrArg Ending.returned ?_, rfl⟩
    all_goals (unfold numF; (repeat' split) <;> (first | (exfalso; simp_all; done) | (exfalso; simp_all; omega) | (simp_all; done) | (simp_all; omega)))

theorem ascii_of_small (s : ByteArray) (pos : Nat) (h : pos < s.size) (hs : (Utf8.decode s pos).1 < 128) : Utf8.decode s pos = ((s.data.toList.getD pos 0).toNat, 1) := by
  have hb : (s[pos]'h).toNat < 128 := by
    rcases Nat.lt_or_ge (s[pos]'h).toNat 128 with h1 | h1
    · exact h1
    · have := (decode_high s pos h h1).1; omega
  rw [decode_ascii s pos h hb]
  have h' : pos < s.data.toList.length := h
  rw [List.getD_eq_getElem?_getD, List.getElem?_eq_getElem h']
  rfl

def DecPost (u : Bool) (bs : List UInt8) (base : Nat) (w : World) (e : Ending) (w' : World) : Prop :=
  (match decF u bs with
    | some o => ∃ v, e = .returned (.tuple #[v, .bool true]) ∧ OwnBs base w' v o
    | none => e = .returned (.tuple #[.slice none 0 0, .bool false])) ∧ Below w.heap.size w w'

theorem DecPost.no {u : Bool} {bs : List UInt8} {base : Nat} {w w' : World} (h : decF u bs = none) (hb : Below w.heap.size w w') : DecPost u bs base w (.returned (.tuple #[.slice none 0 0, .bool false])) w' := by
  unfold DecPost; rw [h]; exact ⟨rfl, hb⟩
theorem DecPost.yes {u : Bool} {bs o : List UInt8} {base : Nat} {w w' : World} {v : Value} (h : decF u bs = some o) (hv : OwnBs base w' v o) (hb : Below w.heap.size w w') : DecPost u bs base w (.returned (.tuple #[v, .bool true])) w' := by
  unfold DecPost; rw [h]; exact ⟨⟨v, rfl, hv⟩, hb⟩

theorem decF_bad {u : Bool} {bs : List UInt8} {k : Nat} (hk : k < bs.length) (h : numF u (bs.getD k 0).toNat = none) : decF u bs = none := by
  unfold decF
  rw [if_neg]
  rintro ⟨h1, _⟩
  have := h1 (bs.getD k 0) (by rw [List.getD_eq_getElem?_getD, List.getElem?_eq_getElem hk]; exact List.getElem_mem hk)
  rw [h] at this
  cases this
theorem numF_high {u : Bool} {c : UInt8} (h : 128 ≤ c.toNat) : numF u c.toNat = none := by
  cases hn : numF u c.toNat with
  | none => rfl
  | some d => have := numF_lt u _ d hn; omega

theorem ascii_of_byte (s : ByteArray) (pos : Nat) (h : pos < s.size) (hs : (s.data.toList.getD pos 0).toNat < 128) : Utf8.decode s pos = ((s.data.toList.getD pos 0).toNat, 1) := by
  have h' : pos < s.data.toList.length := h
  have e : s.data.toList.getD pos 0 = s[pos]'h := by rw [List.getD_eq_getElem?_getD, List.getElem?_eq_getElem h']; rfl
  rw [e] at hs ⊢
  exact decode_ascii s pos h hs
theorem num_at {u : Bool} {s : ByteArray} {pos : Nat} (h : pos < s.size) (hno : numF u (Utf8.decode s pos).1 = none) : numF u (s.data.toList.getD pos 0).toNat = none := by
  rcases Nat.lt_or_ge (s.data.toList.getD pos 0).toNat 128 with h1 | h1
  · rw [ascii_of_byte s pos h h1] at hno; exact hno
  · exact numF_high h1

set_option maxHeartbeats 2000000 in
theorem decode_calls (s : ByteArray) (u : Bool) (w : World) (hi : s.size ≤ 68719476736) :
    Calls Try.prog 36 #[.string s, .bool u] w (DecPost u s.data.toList w.heap.size w) := by
  obtain ⟨i0, hi0, hz0, hz1, hz2⟩ := info_parts infoU8
  have hsl : s.size = s.data.toList.length := rfl
  have HSL := Lib.hid hsl; clear hsl
  go_enter Try.func36, Try.ntmps36
  go_wp2_with (refine wpList_make_own _ rfl _ _ _ rfl w.heap.size 5 i0 (.int .u8 0) 1 Try.underlying52 hi0 hz0 hz1 .i64 .i64 ((s.size : Int) / 4 * 3 + 3) (s.size / 4 * 3 + 3) rfl rfl (by omega) (by rw [hz2]; omega) (by unfold maxLen; omega) (Nat.le_refl _) ?_; intro w1 hown hgrow)
  have hb1 : Below w.heap.size w w1 := (Below.refl _ _).grown hgrow (Nat.le_refl _) (fun k h => by cases h)
  have hb1' : Below w.heap.size w (w1.iter s 0) := hb1.alloc hb1.size _
  have hown1 : OwnBs w.heap.size (w1.iter s 0) (.slice (some ⟨w.heap.size, 0, none⟩) 0 (s.size / 4 * 3 + 3)) [] := World.ownsRow.alloc hown _
  have hit : (w1.iter s 0).heap[w1.heap.size]? = some (.stringIter s 0) := World.iter_heap w1 s 0
  clear hown hgrow
  go_loopw [6, 7, 8] (fun v b ct wr => ∃ k q r : Nat, k ≤ s.size ∧ b = .int .u32 ((accD u (s.data.toList.take k) % 4294967296 : Nat) : Int) ∧ 8 * q + r = 6 * k ∧ r < 8 ∧ ct = .int .i64 r ∧
      OwnBs w.heap.size wr v (outs k (accD u (s.data.toList.take k)) q) ∧ Below w.heap.size w wr ∧ wr.heap[w1.heap.size]? = some (.stringIter s k) ∧ (∀ c ∈ s.data.toList.take k, (numF u c.toNat).isSome = true))
     (fun _ _ _ wr => s.size - wr.iterPos w1.heap.size)
  case atStart => exact ⟨0, 0, 0, Nat.zero_le _, rfl, rfl, by omega, rfl, hown1, hb1', hit, by simp⟩
  case round =>
    clear hown1 hb1' hit
    obtain ⟨k, q, r, hk, rfl, hqr, hr, rfl, hown, hbr, hit, hall⟩ := hrel
    have HALL := Lib.hid hall; clear hall
    have hsz := hbr.size
    by_cases hp : k < s.size
    · have hnx := fun ty => Lib.run_next_any_at (P := Try.prog) wr w1.heap.size s k ty hit hp
      have hdl := decode_le s k
      by_cases hs : (numF u (Utf8.decode s k).1).isSome = true
      · obtain ⟨d, hd⟩ := Option.isSome_iff_exists.1 hs
        have hd64 := numF_lt _ _ _ hd
        have hasc := ascii_of_small s k hp (by omega)
        obtain ⟨C, hC⟩ : ∃ C, C = (s.data.toList.getD k 0).toNat := ⟨_, rfl⟩
        rw [← hC] at hasc
        rw [hasc] at hnx hd hdl hd64
        simp only at hnx hd hdl hd64
        have HC := Lib.hid hC; clear hC hs hasc
        have hk' : k < s.data.toList.length := by rw [← HSL.out]; exact hp
        obtain ⟨X, hX⟩ : ∃ X, X = accD u (s.data.toList.take k) % 4294967296 := ⟨_, rfl⟩
        have hY : bits BinOp.or IntKind.u32 ((X : Int) * 64 % 4294967296) d = ((accD u (s.data.toList.take (k + 1)) % 4294967296 : Nat) : Int) := by
          rw [hX, accD_take u _ k hk', ← HC.out, hd]
          rw [bits_join .u32 32 (by decide) wraps_u32 6 _ _ (by omega) (by omega) (by omega) (by omega) (by omega) (by omega)]
          simp only [Option.getD_some]
          omega
        rw [← hX]
        have hXl : X < 4294967296 := by omega
        have HX := Lib.hid hX; clear hX
        obtain ⟨Y, hY'⟩ : ∃ Y, Y = accD u (s.data.toList.take (k + 1)) % 4294967296 := ⟨_, rfl⟩
        rw [← hY'] at hY
        have hYl : Y < 4294967296 := by omega
        have HY := Lib.hid hY'; clear hY'
        have hown2 : OwnBs w.heap.size (wr.iterAt w1.heap.size s (k + 1)) u6 (outs (k + 1) (accD u (s.data.toList.take (k + 1))) q) := by
          rw [accD_take u _ k hk', outs_more k _ q _ (by rw [← HC.out, hd]; exact hd64.1) (by omega)]
          exact hown.iterAt hit _
        have hb2 := Lib.below_iterAt hbr hb1.size s (k + 1)
        have hit2 := Lib.iterAt_heap wr w1.heap.size s k (k + 1) hit
        have hall2 : Hid (∀ c ∈ s.data.toList.take (k + 1), (numF u c.toNat).isSome = true) := by
          intro c hc
          rw [List.take_add_one, List.getElem?_eq_getElem hk'] at hc
          simp only [Option.toList_some, List.mem_append, List.mem_singleton] at hc
          rcases hc with hc | rfl
          · exact HALL.out c hc
          · have e : s.data.toList[k] = s.data.toList.getD k 0 := by rw [List.getD_eq_getElem?_getD, List.getElem?_eq_getElem hk']; rfl
            rw [e, ← HC.out, hd]; rfl
        clear hown
        by_cases hr8 : 8 ≤ r + 6
        · have hsz2 := hb2.size
          have HBY : Hid (((Y : Int) / 2 ^ (r - 2) % 256) = (((UInt8.ofNat (bx (k + 1) (accD u (s.data.toList.take (k + 1))) q)).toNat : Nat) : Int)) := by
            have h1 := bx_bits (k + 1) (accD u (s.data.toList.take (k + 1))) q (r + 6) (by omega) hr8 (by omega)
            rw [← HY.out, show r + 6 - 8 = r - 2 from by omega] at h1
            have h2 : ((Y : Int) / 2 ^ (r - 2) % 256) = ((Y / 2 ^ (r - 2) % 256 : Nat) : Int) := by simp
            show _ = _
            rw [h2, h1]
            have := bx_lt (k + 1) (accD u (s.data.toList.take (k + 1))) q
            rw [UInt8.toNat_ofNat']
            omega
          have hlq := outs_length (k + 1) (accD u (s.data.toList.take (k + 1))) q
          go_wp2_with (first
            | (go_at_call 46; refine (number_calls _ _ _ (by omega)).mono ?_; rintro e w' ⟨rfl, rfl⟩)
            | (at_builtin; (refine wpList_append_u8 rfl (.tmp 43) (.tmp 48) rfl w.heap.size _ _ rfl hown2 (UInt8.ofNat (bx (k + 1) (accD u (s.data.toList.take (k + 1))) q)) HBY.out rfl (by rw [hlq]; omega) (by omega) ?_; intro v' w2 hown' hgrow')))
          have hb3 : Below w.heap.size w w2 := hb2.grown hgrow' hsz2 (fun k hk => (hown2.lt k hk).1)
          have hit3 : w2.heap[w1.heap.size]? = some (.stringIter s (k + 1)) := (hgrow'.block _ (Array.getElem?_eq_some_iff.1 hit2).1 (hown2.ne hit2 (by intro c f h; cases h))).trans hit2
          rw [← outs_snoc] at hown'
          go_roundw
          case rel => exact ⟨k + 1, q + 1, r - 2, by omega, by rw [HY.out], by omega, by omega, by go_num, hown', hb3, hit3, hall2.out⟩
          case measure =>
            have e1 : w2.iterPos w1.heap.size = k + 1 := by simp [World.iterPos, hit3]
            have e2 : wr.iterPos w1.heap.size = k := by simp [World.iterPos, hit]
            rw [e1, e2]; omega
        · go_wp2_with (go_at_call 46; refine (number_calls _ _ _ (by omega)).mono ?_; rintro e w' ⟨rfl, rfl⟩)
          go_roundw
          case rel => exact ⟨k + 1, q, r + 6, by omega, by rw [HY.out], by omega, by omega, by go_num, hown2, hb2, hit2, hall2.out⟩
          case measure =>
            have e1 : (wr.iterAt w1.heap.size s (k + 1)).iterPos w1.heap.size = k + 1 := by simp [World.iterPos, hit2]
            have e2 : wr.iterPos w1.heap.size = k := by simp [World.iterPos, hit]
            rw [e1, e2]; omega
      · have hno : (numF u (Utf8.decode s k).1) = none := by simpa using hs
        go_wp2_with (go_at_call 46; refine (number_calls _ _ _ (by omega)).mono ?_; rintro e w' ⟨rfl, rfl⟩)
        go_ret2
        refine DecPost.no (decF_bad (k := k) (by rw [← HSL.out]; exact hp) ?_) (Lib.below_iterAt hbr hb1.size _ _)
        exact num_at hp hno
    · have hkn : k = s.size := by omega
      have hbs : s.data.toList.take k = s.data.toList := by rw [hkn, HSL.out]; exact List.take_length
      rw [hbs] at hown HALL ⊢
      have hnx := fun ty => Lib.run_next_end_at (P := Try.prog) wr w1.heap.size s k ty hit hp
      obtain ⟨X, hX⟩ : ∃ X, X = accD u s.data.toList % 4294967296 := ⟨_, rfl⟩
      rw [← hX]
      have hXl : X < 4294967296 := by omega
      have HX := Lib.hid hX; clear hX
      have HR : Hid (r = 6 * s.data.toList.length % 8) := by show _ = _; rw [← HSL.out, ← hkn]; omega
      have HQ : Hid (q = 6 * s.data.toList.length / 8) := by show _ = _; rw [← HSL.out, ← hkn]; omega
      have hno : r = 6 ∨ accD u s.data.toList % 2 ^ r ≠ 0 → decF u s.data.toList = none := by
        intro h
        unfold decF
        rw [if_neg]
        rintro ⟨_, h2, h3⟩
        rw [← HR.out] at h2 h3
        rcases h with h | h
        · exact h2 h
        · exact h h3
      have hyes : r ≠ 6 → accD u s.data.toList % 2 ^ r = 0 → decF u s.data.toList = some (outs k (accD u s.data.toList) q) := by
        intro h1 h2
        unfold decF
        rw [if_pos ⟨HALL.out, by rw [← HR.out]; exact h1, by rw [← HR.out]; exact h2⟩, ← HSL.out, ← hkn]
        congr 2
        have := HQ.out
        rw [← HSL.out, ← hkn] at this
        exact this.symm
      have HLB := Lib.hid (fun c (hc : c < 8) => low_bits (accD u s.data.toList) c hc)
      rw [← HX.out] at HLB
      have HNO := Lib.hid hno; clear hno
      have HYES := Lib.hid hyes; clear hyes
      have HKN := Lib.hid hkn; clear hkn
      clear hbs
      have hr4 : r = 0 ∨ r = 2 ∨ r = 4 ∨ r = 6 := by omega
      rcases hr4 with rfl | rfl | rfl | rfl
      · have hz : bits BinOp.and .u32 (X : Int) 0 = 0 := bits_mask .u32 32 (by decide) wraps_u32 0 (by decide) _ (by omega) (by omega) |>.trans (by omega)
        go_wp2
        go_ret2
        exact DecPost.yes (HYES.out (by decide) (by omega)) hown hbr
      · have hz : bits BinOp.and .u32 (X : Int) 3 = (X : Int) % 4 := bits_mask .u32 32 (by decide) wraps_u32 2 (by decide) _ (by omega) (by omega)
        by_cases hx0 : X % 4 = 0
        · have hz0 : ((X : Int) % 4 == 0) = true := by simp; omega
          go_wp2
          go_ret2
          exact DecPost.yes (HYES.out (by decide) (by rw [← HLB.out 2 (by decide)]; exact hx0)) hown hbr
        · have hz0 : ((X : Int) % 4 == 0) = false := by simp; omega
          go_wp2
          go_ret2
          exact DecPost.no (HNO.out (.inr (by rw [← HLB.out 2 (by decide)]; exact hx0))) hbr
      · have hz : bits BinOp.and .u32 (X : Int) 15 = (X : Int) % 16 := bits_mask .u32 32 (by decide) wraps_u32 4 (by decide) _ (by omega) (by omega)
        by_cases hx0 : X % 16 = 0
        · have hz0 : ((X : Int) % 16 == 0) = true := by simp; omega
          go_wp2
          go_ret2
          exact DecPost.yes (HYES.out (by decide) (by rw [← HLB.out 4 (by decide)]; exact hx0)) hown hbr
        · have hz0 : ((X : Int) % 16 == 0) = false := by simp; omega
          go_wp2
          go_ret2
          exact DecPost.no (HNO.out (.inr (by rw [← HLB.out 4 (by decide)]; exact hx0))) hbr
      · go_wp2
        go_ret2
        exact DecPost.no (HNO.out (by simp)) hbr

theorem DecPost.open_ {u : Bool} {bs : List UInt8} {base : Nat} {w w' : World} {e : Ending} (h : DecPost u bs base w e w') :
    ∃ A n c, e = .returned (.tuple #[.slice A n c, .bool (decF u bs).isSome]) ∧ RB w' A ((decF u bs).getD []) ∧ Hid (n = ((decF u bs).getD []).length) ∧ Below w.heap.size w w' ∧
      (∀ o, decF u bs = some o → OwnBs base w' (.slice A n c) o) := by
  unfold DecPost at h
  obtain ⟨h, hb⟩ := h
  cases hd : decF u bs with
  | none => rw [hd] at h; exact ⟨none, 0, 0, h, fun k hk => absurd hk (by simp), rfl, hb, fun o h => by cases h⟩
  | some o =>
    rw [hd] at h
    obtain ⟨v, he, hv⟩ := h
    obtain ⟨A, n, c, rfl, hrb, hn⟩ := hv.form
    exact ⟨A, n, c, he, hrb, hn, hb, fun o h => by cases h; exact hv⟩

theorem decode_list (l : List UInt8) (u : Bool) (w : World) (hi : l.length ≤ 68719476736) :
    Calls Try.prog 36 #[.string ⟨l.toArray⟩, .bool u] w (DecPost u l w.heap.size w) := by
  have := decode_calls ⟨l.toArray⟩ u w hi
  simpa using this
end Go.Proofs.Ythhnbpbebplcoaa
