/- The contracts of the functions on users', rooms' and keys' names. -/
import Derived.Test.YtaadojnkamjilaaIdS
import Derived.Test.YtaadojnkamjilaaIdQ
namespace Go.Proofs.Ytaadojnkamjilaa
open Go.ChangeShapes Go.WideShapes Go.ChangeAt Go.RowKit Go.IntWalk
set_option linter.unusedVariables false

theorem usr_ascii : ∀ b ∈ ([46, 95, 61, 45, 47, 43] : List UInt8), b.toNat < 128 := by decide
theorem room_ascii : ∀ b ∈ ([95, 45] : List UInt8), b.toNat < 128 := by decide
theorem key_ascii : ∀ b ∈ ([95] : List UInt8), b.toNat < 128 := by decide

def capV (w : World) : Value := .func (.func 43) #[] #[.pointer (some ⟨w.heap.size, 0, none⟩)]
theorem cap_make (v : Value) (w : World) (hv1 : ∃ F caps, v = .func (.func F) #[] caps) :
    Calls Try.prog 32 #[v] w fun e w' => e = .returned (capV w) ∧ Below w.heap.size w w' ∧ w'.cell? ⟨w.heap.size, 0, none⟩ = some v := by
  obtain ⟨F, caps, rfl⟩ := hv1
  have hmf : ∀ (fn : Fn) (first cap : Array Value) (w : World), (Instr.makeFunc fn first cap).run Try.prog w = .ok (.func fn first cap) w := fun _ _ _ _ => rfl
  go_enter Try.func32, Try.ntmps32
  go_wp2
  go_ret
  refine ⟨rfl, (Below.refl _ _).alloc (Nat.le_refl _) _, ?_⟩
  rw [World.cell?_alloc_at _ _ _ _ rfl]; rfl
theorem tells_cap (l : List UInt8) (w w1 w2 : World) (hl : ∀ b ∈ l, b.toNat < 128) (hlen : l.length ≤ 1000000) (hc : w2.cell? ⟨w.heap.size, 0, none⟩ = some (.string ⟨l.toArray⟩))
    (hc2 : w2.cell? ⟨w1.heap.size, 0, none⟩ = some (amongV w)) : Tells (capV w1) (isCap l) w2 :=
  ⟨43, #[.pointer (some ⟨w1.heap.size, 0, none⟩)], rfl, fun a w' => by kernel_rfl, fun r w' hb hr hok =>
    cap_calls l r _ _ w' hl hlen hr hok ((hb.cell (p := ⟨w.heap.size, 0, none⟩) (World.block_lt_of_cell? w2 _ hc)).trans hc) ((hb.cell (p := ⟨w1.heap.size, 0, none⟩) (World.block_lt_of_cell? w2 _ hc2)).trans hc2)⟩

theorem AtPost.eq {ok : Bool} {server : List UInt8} {w w' w0 : World} {e : Ending} (h : AtPost ok server w e w') : e = .returned (.tuple #[.string ⟨(pickS ok server).toArray⟩, .bool ok]) ∧ Below w.heap.size w w' := h

set_option maxHeartbeats 1000000 in
theorem user_calls (l : List UInt8) (w : World) (hm : Max w) (hl : l.length ≤ 1000000) :
    Calls Try.prog 28 #[.string ⟨l.toArray⟩] w (AtPost (userF l) (l.drop (colonF l + 1)) w) := by
  go_enter Try.func28, Try.ntmps28
  go_wp2_with fail
  refine (among_make [46, 95, 61, 45, 47, 43] _).mono ?_
  rintro e w1 ⟨rfl, b1, hc1⟩
  go_wp2_with fail
  refine (at_calls l 64 _ _ _ (hm.below b1) hl (fun r h => among_lt h) (tells_among [46, 95, 61, 45, 47, 43] _ _ usr_ascii (by simp) hc1)).mono ?_
  rintro e w2 ⟨rfl, hb2⟩
  go_wp2
  go_ret2
  exact ⟨rfl, b1.then_ hb2⟩

set_option maxHeartbeats 1000000 in
theorem room_calls (l : List UInt8) (w : World) (hm : Max w) (hl : l.length ≤ 1000000) :
    Calls Try.prog 30 #[.string ⟨l.toArray⟩] w (AtPost (roomF l) (l.drop (colonF l + 1)) w) := by
  go_enter Try.func30, Try.ntmps30
  go_wp2_with fail
  refine (among_make [95, 45] _).mono ?_
  rintro e w1 ⟨rfl, b1, hc1⟩
  go_wp2_with fail
  refine (cap_make (amongV w) _ ⟨_, _, rfl⟩).mono ?_
  rintro e w2 ⟨rfl, hb2, hc2⟩
  have b2 := b1.then_ hb2
  have hc1' := (hb2.cell (p := ⟨w.heap.size, 0, none⟩) (World.block_lt_of_cell? w1 _ hc1)).trans hc1
  go_wp2_with fail
  refine (at_calls l 33 _ _ _ (hm.below b2) hl (fun r h => cap_lt h) (tells_cap [95, 45] _ _ _ room_ascii (by simp) hc1' hc2)).mono ?_
  rintro e w3 ⟨rfl, hb3⟩
  go_wp2
  go_ret2
  exact ⟨rfl, b2.then_ hb3⟩

theorem User_calls (l : List UInt8) (w : World) (hm : Max w) (hl : l.length ≤ 1000000) :
    Calls Try.prog 11 #[.string ⟨l.toArray⟩] w fun e w' => e = .returned (.bool (userF l)) ∧ Below w.heap.size w w' := by
  go_enter Try.func11, Try.ntmps11
  go_wp2_with fail
  refine (user_calls l _ hm hl).mono ?_
  rintro e w1 ⟨rfl, b1⟩
  go_wp2
  go_ret
  exact ⟨rfl, b1⟩

theorem Room_calls (l : List UInt8) (w : World) (hm : Max w) (hl : l.length ≤ 1000000) :
    Calls Try.prog 13 #[.string ⟨l.toArray⟩] w fun e w' => e = .returned (.bool (roomF l)) ∧ Below w.heap.size w w' := by
  go_enter Try.func13, Try.ntmps13
  go_wp2_with fail
  refine (room_calls l _ hm hl).mono ?_
  rintro e w1 ⟨rfl, b1⟩
  go_wp2
  go_ret
  exact ⟨rfl, b1⟩

set_option maxHeartbeats 1000000 in
theorem Domain_calls (l : List UInt8) (w : World) (hm : Max w) (hl : l.length ≤ 1000000) :
    Calls Try.prog 20 #[.string ⟨l.toArray⟩] w fun e w' => e = .returned (.string ⟨(domainF l).toArray⟩) ∧ Below w.heap.size w w' := by
  cases hu : userF l with
  | true =>
    have HE : Hid (domainF l = l.drop (colonF l + 1)) := by show _ = _; unfold domainF; rw [hu]; rfl
    go_enter Try.func20, Try.ntmps20
    go_wp2_with fail
    refine (user_calls l _ hm hl).mono ?_
    rintro e w1 ⟨rfl, b1⟩
    rw [hu]
    go_wp2
    go_ret
    exact ⟨ret_str (by rw [HE.out]; rfl), b1⟩
  | false =>
    have HE : Hid (domainF l = pickS (roomF l) (l.drop (colonF l + 1))) := by show _ = _; unfold domainF pickS; rw [hu]; rfl
    go_enter Try.func20, Try.ntmps20
    go_wp2_with fail
    refine (user_calls l _ hm hl).mono ?_
    rintro e w1 ⟨rfl, b1⟩
    rw [hu]
    go_wp2_with fail
    refine (room_calls l _ (hm.below b1) hl).mono ?_
    rintro e w2 ⟨rfl, hb2⟩
    go_wp2
    go_ret
    exact ⟨ret_str (by rw [HE.out]), b1.then_ hb2⟩

theorem prefix_key (l : List UInt8) : Lib.hasPrefix l [101, 100, 50, 53, 53, 49, 57, 58] = (l.take 8 == [101, 100, 50, 53, 53, 49, 57, 58]) := by
  unfold Lib.hasPrefix
  rw [Bool.eq_iff_iff, List.isPrefixOf_iff_prefix, List.prefix_iff_eq_take]
  exact ⟨fun h => beq_iff_eq.2 h.symm, fun h => (beq_iff_eq.1 h).symm⟩

set_option maxHeartbeats 1000000 in
theorem Key_calls (l : List UInt8) (w : World) (hm : Max w) (hl : l.length ≤ 1000000) :
    Calls Try.prog 15 #[.string ⟨l.toArray⟩] w fun e w' => e = .returned (.bool (keyF l)) ∧ Below w.heap.size w w' := by
  cases hpx : Lib.hasPrefix l [101, 100, 50, 53, 53, 49, 57, 58] with
  | false =>
    have HE : Hid (keyF l = false) := by show _ = _; unfold keyF; rw [hpx]; rfl
    go_enter Try.func15, Try.ntmps15
    go_wp2_with fail
    refine (Try.strings_CutPrefix ⟨l.toArray⟩ ⟨#[101, 100, 50, 53, 53, 49, 57, 58]⟩ _).mono ?_
    rintro e w' ⟨rfl, rfl⟩
    rw [show (⟨l.toArray⟩ : ByteArray).data.toList = l from rfl, show (⟨#[101, 100, 50, 53, 53, 49, 57, 58]⟩ : ByteArray).data.toList = [101, 100, 50, 53, 53, 49, 57, 58] from rfl, hpx]
    go_wp2
    go_ret
    exact ⟨ret_bool HE.out.symm, Below.refl _ _⟩
  | true =>
    have HTR : Hid (Lib.trimPrefix l [101, 100, 50, 53, 53, 49, 57, 58] = l.drop 8) := by show _ = _; unfold Lib.trimPrefix; rw [hpx]; rfl
    have hT1 : (l.drop 8).length ≤ 1000000 := by rw [List.length_drop]; omega
    by_cases h255 : l.length ≤ 255
    · have hd255 : decide ((l.length : Int) ≤ 255) = true := by simp; omega
      have HE : Hid (keyF l = onlyF (isCap [95]) (l.drop 8)) := by show _ = _; unfold keyF; rw [hpx]; simp [h255]
      obtain ⟨T, hT⟩ : ∃ T, T = l.drop 8 := ⟨_, rfl⟩
      rw [← hT] at HE HTR hT1
      clear hT
      go_enter Try.func15, Try.ntmps15
      go_wp2_with fail
      refine (Try.strings_CutPrefix ⟨l.toArray⟩ ⟨#[101, 100, 50, 53, 53, 49, 57, 58]⟩ _).mono ?_
      rintro e w' ⟨rfl, hw⟩
      have hw' := hw.symm; clear hw; subst hw'
      rw [show (⟨l.toArray⟩ : ByteArray).data.toList = l from rfl, show (⟨#[101, 100, 50, 53, 53, 49, 57, 58]⟩ : ByteArray).data.toList = [101, 100, 50, 53, 53, 49, 57, 58] from rfl, hpx, HTR.out]
      go_wp2_with fail
      refine (among_make [95] _).mono ?_
      rintro e w1 ⟨rfl, b1, hc1⟩
      go_wp2_with fail
      refine (cap_make (amongV w) _ ⟨_, _, rfl⟩).mono ?_
      rintro e w2 ⟨rfl, hb2, hc2⟩
      have b2 := b1.then_ hb2
      have hc1' := (hb2.cell (p := ⟨w.heap.size, 0, none⟩) (World.block_lt_of_cell? w1 _ hc1)).trans hc1
      go_wp2_with fail
      refine (only_calls ⟨T.toArray⟩ _ _ _ (fun r h => cap_lt h) (by show T.length ≤ _; omega) (tells_cap [95] _ _ _ key_ascii (by simp) hc1' hc2)).mono ?_
      rintro e w3 ⟨rfl, hb3⟩
      rw [show (⟨T.toArray⟩ : ByteArray).data.toList = T from rfl]
      go_wp2
      go_ret
      exact ⟨ret_bool HE.out.symm, b2.then_ hb3⟩
    · have hd255 : decide ((l.length : Int) ≤ 255) = false := by simp; omega
      have HE : Hid (keyF l = false) := by show _ = _; unfold keyF; simp [h255]
      go_enter Try.func15, Try.ntmps15
      go_wp2_with fail
      refine (Try.strings_CutPrefix ⟨l.toArray⟩ ⟨#[101, 100, 50, 53, 53, 49, 57, 58]⟩ _).mono ?_
      rintro e w' ⟨rfl, rfl⟩
      rw [show (⟨l.toArray⟩ : ByteArray).data.toList = l from rfl, show (⟨#[101, 100, 50, 53, 53, 49, 57, 58]⟩ : ByteArray).data.toList = [101, 100, 50, 53, 53, 49, 57, 58] from rfl, hpx]
      go_wp2
      go_ret
      exact ⟨ret_bool HE.out.symm, Below.refl _ _⟩
end Go.Proofs.Ytaadojnkamjilaa
