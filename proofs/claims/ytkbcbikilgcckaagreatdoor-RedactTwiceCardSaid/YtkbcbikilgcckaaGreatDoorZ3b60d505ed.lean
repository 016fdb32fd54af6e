/- Texts put together: PwA JvE JgB JvD JfA. -/
import Derived.Test.YtkbcbikilgcckaaGreatDoorZcf87a46e79
import Derived.Test.YtkbcbikilgcckaaGreatDoorZae125c35ba
import Derived.Test.YtkbcbikilgcckaaGreatDoorZe0ec6b32e3
import Derived.Test.YtkbcbikilgcckaaGreatDoorShelf
import Derived.Test.YtkbcbikilgcckaaGreatDoorZ6b0aa5551a
import Derived.Deep.Cut
import Derived.Deep.AppendLies
import Derived.Lib.SliceRun
namespace Go.Proofs.YtkbcbikilgcckaaGreatDoor
open Go.Lib
set_option linter.unusedVariables false

/-- A row's keys. -/
def JT.keys : JT → List (List UInt8)
  | .nil => []
  | .cons k _ _ _ _ _ _ r => k :: r.keys
def keyP (k : List UInt8) : Pr := (k, [])
def slts (t : JT) : List Slt := t.keys.map fun k => ⟨k, [], []⟩
theorem slts_len : ∀ t : JT, (slts t).length = t.ext
  | .nil => rfl
  | .cons k _ _ _ _ _ _ r => by have := slts_len r; simp [slts, JT.keys, JT.ext] at this ⊢; exact this
theorem slts_at : ∀ (t : JT) (i : Nat) (h : i < (slts t).length), ((slts t)[i]).pr = keyP (t.fall i).key
  | .nil, i, h => absurd h (by simp [slts, JT.keys])
  | .cons k _ _ _ _ _ _ r, 0, h => rfl
  | .cons k _ _ _ _ _ _ r, i + 1, h => by
    have := slts_at r i (by simpa [slts, JT.keys] using h)
    show _ = keyP (r.fall i).key
    simpa [slts, JT.keys] using this
theorem cmpP_key (a b : List UInt8) : cmpP (keyP a) (keyP b) = compareBytes a b := by
  unfold cmpP keyP
  dsimp only
  split
  · rename_i h; rw [h]; rfl
  · rfl
/-- Do the keys rise, in all maps? -/
def risF (mem : Bool) : Option (List UInt8) → JT → Bool
  | _, .nil => true
  | prev, .cons k _ _ _ _ l m r => (match prev with | none => true | some p => !mem || Op.bytesLess p k) && risF true none m && risF false none l && risF mem (some k) r
def risV (v : Jv) : Bool := risF true none v.m && risF false none v.l
theorem rise_of (p : Option (List UInt8)) : ∀ t : JT, risF true p t = true → Rise (slts t) ∧ ∀ q, p = some q → ∀ s ∈ slts t, cmpP (keyP q) s.pr = -1
  | .nil, _ => ⟨List.Pairwise.nil, fun _ _ s hs => by simp [slts, JT.keys] at hs⟩
  | .cons k kd is n s l m r, h => by
    simp only [risF, Bool.and_eq_true, Bool.not_true, Bool.false_or] at h
    obtain ⟨⟨⟨h1, _⟩, _⟩, h4⟩ := h
    obtain ⟨h5, h6⟩ := rise_of (some k) r h4
    have hk : ∀ s ∈ slts r, cmpP (keyP k) s.pr = -1 := h6 k rfl
    refine ⟨List.pairwise_cons.2 ⟨fun b hb => hk b hb, h5⟩, fun q hq s hs => ?_⟩
    subst hq
    have hqk : cmpP (keyP q) (keyP k) = -1 := by
      rw [cmpP_key]
      dsimp only at h1
      rw [bl_cb] at h1
      simpa using h1
    rcases List.mem_cons.1 (show s ∈ (⟨k, [], []⟩ : Slt) :: slts r from hs) with rfl | hs
    · exact hqk
    · exact cmpP_trans hqk (hk s hs)
theorem rise_top {v : Jv} (h : risV v = true) : Rise (slts v.m) := by
  unfold risV at h
  simp only [Bool.and_eq_true] at h
  exact (rise_of none v.m h.1).1
theorem ris_fall (mem : Bool) : ∀ (t : JT) (p : Option (List UInt8)) (i : Nat), risF mem p t = true → i < t.ext → risV (t.fall i).val = true
  | .nil, _, i, _, hi => absurd hi (by simp [JT.ext])
  | .cons k kd is n s l m r, p, 0, h, _ => by
    simp only [risF, Bool.and_eq_true] at h
    simp [risV, JT.fall, JT.val, h]
  | .cons k kd is n s l m r, p, i + 1, h, hi => by
    simp only [risF, Bool.and_eq_true] at h
    exact ris_fall mem r (some k) i h.2 (by simp [JT.ext] at hi; omega)
/-- The value of a key. -/
def JT.findV : JT → List UInt8 → Option Jv
  | .nil, _ => none
  | .cons k kd is n s l m r, key => if k = key then some ⟨kd, is, n, s, l, m⟩ else r.findV key
theorem findV_pos : ∀ {t : JT} (_ : Rise (slts t)) (key : List UInt8), t.findV key = if foundF (slts t) (keyP key) then some (t.fall (posF (slts t) (keyP key))).val else none
  | .nil, _, key => rfl
  | .cons k kd is n s l m r, hr, key => by
    have hr2 : Rise (slts r) := List.Pairwise.of_cons hr
    have hall := (List.pairwise_cons.1 (show List.Pairwise (fun a b => cmpP a.pr b.pr = -1) ((⟨k, [], []⟩ : Slt) :: slts r) from hr)).1
    have ih := findV_pos hr2 key
    have es : slts (.cons k kd is n s l m r) = (⟨k, [], []⟩ : Slt) :: slts r := rfl
    rw [es]
    have hpr : (⟨k, [], []⟩ : Slt).pr = keyP k := rfl
    by_cases hs : cmpP (keyP k) (keyP key) = -1
    · have e : posF ((⟨k, [], []⟩ : Slt) :: slts r) (keyP key) = posF (slts r) (keyP key) + 1 := by unfold posF; rw [List.takeWhile_cons_of_pos (by simp [hpr, hs])]; simp
      have f : foundF ((⟨k, [], []⟩ : Slt) :: slts r) (keyP key) = foundF (slts r) (keyP key) := by unfold foundF; rw [e]; simp
      have hne : ¬ k = key := by intro h; rw [h, cmpP_self] at hs; exact absurd hs (by decide)
      rw [f, e]
      simp only [JT.findV, if_neg hne, JT.fall]
      exact ih
    · have e : posF ((⟨k, [], []⟩ : Slt) :: slts r) (keyP key) = 0 := by unfold posF; rw [List.takeWhile_cons_of_neg (by simp [hpr, hs])]; rfl
      rcases cmpP_three (keyP k) (keyP key) with h | h | h
      · exact absurd h hs
      · have hf : foundF ((⟨k, [], []⟩ : Slt) :: slts r) (keyP key) = true := by unfold foundF; rw [e]; simp [hpr, h]
        have heq : k = key := by have := cmpP_eq h; injection this
        rw [hf, e, if_pos rfl]
        simp [JT.findV, heq, JT.fall, JT.val]
      · have hf : foundF ((⟨k, [], []⟩ : Slt) :: slts r) (keyP key) = false := by unfold foundF; rw [e]; simp [hpr, h]
        have hne : ¬ k = key := by intro e2; rw [e2, cmpP_self] at h; exact absurd h (by decide)
        rw [hf]
        simp only [JT.findV, if_neg hne]
        rw [ih]
        have hr0 : foundF (slts r) (keyP key) = false := by
          unfold foundF
          cases hg : (slts r)[posF (slts r) (keyP key)]? with
          | none => rfl
          | some x =>
            have hx := List.mem_of_getElem? hg
            have h1 := hall x hx
            have h2 : cmpP (keyP key) (keyP k) = -1 := by rw [cmpP_anti (keyP k) (keyP key), h]
            have h3 := cmpP_trans h2 h1
            have h4 : cmpP x.pr (keyP key) = 1 := by rw [cmpP_anti (keyP key) x.pr, h3]; decide
            simp [h4]
        rw [hr0]; simp
def nullV : Jv := ⟨0, false, 0, [], .nil, .nil⟩
/-- The value of a key; null: it is no map, or hasn't it. -/
def memF (v : Jv) (key : List UInt8) : Jv := if v.kd = 5 then (v.m.findV key).getD nullV else nullV
/-- A member that is a number. -/
def toldF (v : Jv) (key : List UInt8) : Option Int := if (memF v key).kd = 2 then some (memF v key).n else none
/-- A level that stands alone, if it isn't told. -/
def startF (name : List UInt8) : Int := if name = [98, 97, 110] ∨ name = [107, 105, 99, 107] ∨ name = [114, 101, 100, 97, 99, 116] ∨ name = [115, 116, 97, 116, 101, 95, 100, 101, 102, 97, 117, 108, 116] then 50 else 0
def levelF (v : Jv) (name : List UInt8) : Int := (toldF v name).getD (startF name)
def usersK : List UInt8 := [117, 115, 101, 114, 115]
def userF (v : Jv) (creator user : List UInt8) : Int :=
  if v.kd = 5 then (toldF (memF v usersK) user).getD (levelF v [117, 115, 101, 114, 115, 95, 100, 101, 102, 97, 117, 108, 116]) else if user = creator then 100 else 0
def sendF (v : Jv) (kind : List UInt8) (state : Bool) : Int :=
  match toldF (memF v [101, 118, 101, 110, 116, 115]) kind with
  | some n => n
  | none => if state then (if v.kd = 5 then levelF v [115, 116, 97, 116, 101, 95, 100, 101, 102, 97, 117, 108, 116] else 0) else levelF v [101, 118, 101, 110, 116, 115, 95, 100, 101, 102, 97, 117, 108, 116]
end Go.Proofs.YtkbcbikilgcckaaGreatDoor
namespace Go.Proofs.YtkbcbikilgcckaaGreatDoor
open Go.ChangeShapes Go.WideShapes Go.ChangeAt Go.RowKit Go.IntWalk
set_option linter.unusedVariables false

section
variable {base : Nat} {w w1 w' : World} {mem : Bool} {A : Option Addr} {t : JT}
theorem JSl.blw (h : JSl (· < base) w mem A t) (b : Below base w w') : JSl (· < base) w' mem A t :=
  h.stay (fun b' o hb => b.cell (p := ⟨b', o, none⟩) hb) (fun _ h => h)
/-- The i-th value of a list, its cells told one by one. -/
theorem JSl.el (P : Nat → Prop) (h : JSl P w false A t) {i : Nat} (hi : i < t.ext) : ∃ b o A1 nl cl B1 nm cm, A = some ⟨b, o, none⟩ ∧ P b ∧ b < w.heap.size ∧
    w.cell? ⟨b, o + i * 6, none⟩ = some (.int .i64 (t.fall i).val.kd) ∧ w.cell? ⟨b, o + i * 6 + 1, none⟩ = some (.bool (t.fall i).val.is) ∧ w.cell? ⟨b, o + i * 6 + 2, none⟩ = some (.int .i64 (t.fall i).val.n) ∧
    w.cell? ⟨b, o + i * 6 + 3, none⟩ = some (.string ⟨(t.fall i).val.s.toArray⟩) ∧ w.cell? ⟨b, o + i * 6 + 4, none⟩ = some (.slice A1 nl cl) ∧ w.cell? ⟨b, o + i * 6 + 5, none⟩ = some (.slice B1 nm cm) ∧
    Room nl cl (t.fall i).val.l.ext ∧ Room nm cm (t.fall i).val.m.ext ∧ JSl P w false A1 (t.fall i).val.l ∧ JSl P w true B1 (t.fall i).val.m ∧ Fit (t.fall i).val.kd (t.fall i).val.n (t.fall i).val.s := by
  obtain ⟨b, o, e, hP, hb, _, cs, hr, A1, nl, cl, B1, nm, cm, rfl, h1, h2, h3, h4, h5⟩ := h.at_ hi
  exact ⟨b, o, A1, nl, cl, B1, nm, cm, e, hP, hb, hr 0 _ rfl, hr 1 _ rfl, hr 2 _ rfl, hr 3 _ rfl, hr 4 _ rfl, hr 5 _ rfl, h1, h2, h3, h4, h5⟩
/-- The i-th member of a map. -/
theorem JSl.mb (P : Nat → Prop) (h : JSl P w true A t) {i : Nat} (hi : i < t.ext) : ∃ b o A1 nl cl B1 nm cm, A = some ⟨b, o, none⟩ ∧ P b ∧ b < w.heap.size ∧
    w.cell? ⟨b, o + i * 7, none⟩ = some (.string ⟨(t.fall i).key.toArray⟩) ∧ (t.fall i).key.length ≤ 140737488355328 ∧
    w.cell? ⟨b, o + i * 7 + 1, none⟩ = some (.int .i64 (t.fall i).val.kd) ∧ w.cell? ⟨b, o + i * 7 + 2, none⟩ = some (.bool (t.fall i).val.is) ∧ w.cell? ⟨b, o + i * 7 + 3, none⟩ = some (.int .i64 (t.fall i).val.n) ∧
    w.cell? ⟨b, o + i * 7 + 4, none⟩ = some (.string ⟨(t.fall i).val.s.toArray⟩) ∧ w.cell? ⟨b, o + i * 7 + 5, none⟩ = some (.slice A1 nl cl) ∧ w.cell? ⟨b, o + i * 7 + 6, none⟩ = some (.slice B1 nm cm) ∧
    Room nl cl (t.fall i).val.l.ext ∧ Room nm cm (t.fall i).val.m.ext ∧ JSl P w false A1 (t.fall i).val.l ∧ JSl P w true B1 (t.fall i).val.m ∧ Fit (t.fall i).val.kd (t.fall i).val.n (t.fall i).val.s := by
  obtain ⟨b, o, e, hP, hb, hk, cs, hr, A1, nl, cl, B1, nm, cm, rfl, h1, h2, h3, h4, h5⟩ := h.at_ hi
  exact ⟨b, o, A1, nl, cl, B1, nm, cm, e, hP, hb, hk.1, hk.2, hr 0 _ rfl, hr 1 _ rfl, hr 2 _ rfl, hr 3 _ rfl, hr 4 _ rfl, hr 5 _ rfl, h1, h2, h3, h4, h5⟩
end
theorem JSl.up {w w' : World} {mem : Bool} {A : Option Addr} {t : JT} (h : JSl (· < w.heap.size) w mem A t) (b : Below w.heap.size w w') : JSl (· < w'.heap.size) w' mem A t :=
  h.stay (fun b' o hb => b.cell (p := ⟨b', o, none⟩) hb) (fun x hx => Nat.lt_of_lt_of_le hx b.size)
end Go.Proofs.YtkbcbikilgcckaaGreatDoor
namespace Go.Proofs.YtkbcbikilgcckaaGreatDoor
open Go.ChangeShapes Go.WideShapes Go.ChangeAt Go.RowKit Go.IntWalk
set_option linter.unusedVariables false

theorem size_mem : (Tryz.prog.info? 42).map (·.size) = some 7 := by kernel_rfl
theorem size_val : (Tryz.prog.info? 25).map (·.size) = some 6 := by kernel_rfl
theorem closureJ_calls (ek : List UInt8) (eu : Jv) (eA eB : Option Addr) (enl ecl enm ecm : Nat) (key : List UInt8) (W : World) :
    Calls Tryz.prog 89 #[.agg #[.string ⟨ek.toArray⟩, .int .i64 eu.kd, .bool eu.is, .int .i64 eu.n, .string ⟨eu.s.toArray⟩, .slice eA enl ecl, .slice eB enm ecm], .string ⟨key.toArray⟩] W fun e w' => e = .returned (.int .i64 (cmpP (keyP ek) (keyP key))) ∧ Below W.heap.size W w' := by
  rw [cmpP_key]
  go_enter Tryz.func89, Tryz.ntmps89
  go_wp2_with fail
  refine (Tryz.strings_Compare _ _ _).mono ?_
  rintro e w1 ⟨rfl, rfl⟩
  go_wp2_with fail
  go_ret
  exact ⟨rfl, (Below.refl _ _).alloc (Nat.le_refl _) _⟩
theorem half_uJ (a b : Nat) (ha : a ≤ 140737488355328) (hb : b ≤ 140737488355328) : IntKind.u64.wrap ((a : Int) + (b : Int)) = (a : Int) + (b : Int) := by rw [IntKind.wrap_u64]; omega
theorem half_dJ (a b h : Nat) (hh : (a + b) / 2 = h) : ((a : Int) + (b : Int)) / 2 = (h : Int) := by omega
theorem half_wJ (h : Nat) (hh : h ≤ 140737488355328) : wrap64 (h : Int) = (h : Int) := wrap64_in _ (by omega)
theorem half_sJ (a b : Nat) (ha : a ≤ 140737488355328) (hb : b ≤ 140737488355328) : wrap64 ((a : Int) + (b : Int)) = (a : Int) + (b : Int) := wrap64_in _ (by omega)
theorem cmp_at {t : JT} {i : Nat} (h : i < (slts t).length) {ek : List UInt8} (hek : (t.fall i).key = ek) : ((slts t)[i]).pr = keyP ek := by rw [slts_at t i h, hek]
set_option maxHeartbeats 4000000 in
set_option maxRecDepth 100000 in
theorem search_callsJ (A : Option Addr) (n c : Nat) (t : JT) (key : List UInt8) (w : World) (hn : Room n c t.ext) (hs : JSl (· < w.heap.size) w true A t) (hr : Rise (slts t)) : Calls Tryz.prog 88 #[.slice A n c, .string ⟨key.toArray⟩, .func (Fn.func 89) #[] #[]] w fun e w' => e = .returned (.tuple #[.int .i64 (posF (slts t) (keyP key) : Int), .bool (foundF (slts t) (keyP key))]) ∧ Below w.heap.size w w' := by
  obtain ⟨hn, hnc, hc63⟩ := hn
  have hlen : n = (slts t).length := by rw [slts_len]; exact hn
  obtain ⟨ps, hps⟩ : ∃ ps, posF (slts t) (keyP key) = ps := ⟨_, rfl⟩
  have hpn : ps ≤ n := by rw [← hps, hlen]; exact posF_le _ _
  have HS := Lib.hid hs
  have HH := Lib.hid (And.intro hr hlen)
  have HP := Lib.hid hps
  rw [hps]
  have hn47 : n ≤ 140737488355328 := hc63
  clear hs hn hr hlen hps hnc hc63
  go_enter Tryz.func88, Tryz.ntmps88
  go_wp2_with fail
  go_loopw [9, 10] (fun i j wr => ∃ a b : Nat, a ≤ ps ∧ ps ≤ b ∧ b ≤ n ∧ i = .int .i64 (a : Int) ∧ j = .int .i64 (b : Int) ∧ Hid (Below w.heap.size w wr)) (fun i j _ => (intOf j - intOf i).toNat)
  case atStart => exact ⟨0, n, Nat.zero_le _, hpn, Nat.le_refl _, rfl, rfl, Lib.hid (Below.refl _ _)⟩
  case round =>
    obtain ⟨a, b, ha, hab, hb, rfl, rfl, hbe⟩ := hrel
    by_cases hlt : a < b
    · have hb2 : b ≤ 140737488355328 := Nat.le_trans hb hn47
      have ha2 : a ≤ 140737488355328 := Nat.le_trans (Nat.le_of_lt hlt) hb2
      obtain ⟨h, hh⟩ : ∃ h, (a + b) / 2 = h := ⟨_, rfl⟩
      have hah : a ≤ h := by omega
      have hhb : h < b := by omega
      have hkn : h < n := by omega
      have e3 := half_dJ a b h hh
      have e4 := half_wJ h (by omega)
      have e1 := half_sJ a b ha2 hb2
      have e2 := half_uJ a b ha2 hb2
      have hk : h < (slts t).length := by rw [← HH.out.2]; exact hkn
      obtain ⟨b0, off, eA, enl, ecl, eB, enm, ecm, rfl, eP, ebl, eK, eKl, f0, f1, f2, f3, f4, f5, r1, r2, s1, s2, hf⟩ := (HS.out.up hbe.out).mb (i := h) _ (by rw [← slts_len]; exact hk)
      obtain ⟨eu, hev⟩ : ∃ eu, (t.fall h).val = eu := ⟨_, rfl⟩
      obtain ⟨ek, hek⟩ : ∃ ek, (t.fall h).key = ek := ⟨_, rfl⟩
      rw [hev] at f0 f1 f2 f3
      rw [hek] at eK
      have HX := Lib.hid (cmp_at hk hek)
      have HKK := Lib.hid hk
      clear eP eKl r1 r2 s1 s2 hf hev hek hh
      go_wp2_with fail
      refine (closureJ_calls ek eu eA eB enl ecl enm ecm key _).mono ?_
      rintro e w4 ⟨rfl, b4⟩
      have HB4 := Lib.hid (hbe.out.then_ b4)
      clear b4 eK f0 f1 f2 f3 f4 f5 e1 e2 e3 e4
      obtain ⟨z, hz⟩ : ∃ z, cmpP (keyP ek) (keyP key) = z := ⟨_, rfl⟩
      have HZ := Lib.hid hz
      rw [hz]
      clear hz
      by_cases hz0 : z < 0
      · have HPP : h + 1 ≤ ps := by
          have h1 : ¬ ps ≤ h := fun h2 => by
            have h5 := posF_high HH.out.1 (keyP key) h HKK.out (by rw [HP.out]; exact h2)
            rw [HX.out, HZ.out] at h5
            rcases cmpP_three (keyP ek) (keyP key) with h3 | h3 | h3 <;> rw [HZ.out] at h3 <;> omega
          omega
        go_wp2_with fail
        exact ⟨⟨h + 1, b, HPP, hab, hb, by go_num, rfl, HB4⟩, by simp [intOf]; omega⟩
      · have HPP : ps ≤ h := by
          rcases Nat.lt_or_ge h ps with h2 | h2
          · have h5 := posF_low (slts t) (keyP key) h HKK.out (by rw [HP.out]; exact h2)
            rw [HX.out, HZ.out] at h5
            omega
          · exact h2
        go_wp2_with fail
        exact ⟨⟨a, h, ha, HPP, by omega, rfl, rfl, HB4⟩, by simp [intOf]; omega⟩
    · obtain rfl : a = ps := by omega
      obtain rfl : b = a := by omega
      rcases Nat.lt_or_ge b n with hbn | hbn
      · have hk : b < (slts t).length := by rw [← HH.out.2]; exact hbn
        obtain ⟨b0, off, eA, enl, ecl, eB, enm, ecm, rfl, eP, ebl, eK, eKl, f0, f1, f2, f3, f4, f5, r1, r2, s1, s2, hf⟩ := (HS.out.up hbe.out).mb (i := b) _ (by rw [← slts_len]; exact hk)
        obtain ⟨eu, hev⟩ : ∃ eu, (t.fall b).val = eu := ⟨_, rfl⟩
        obtain ⟨ek, hek⟩ : ∃ ek, (t.fall b).key = ek := ⟨_, rfl⟩
        rw [hev] at f0 f1 f2 f3
        rw [hek] at eK
        obtain ⟨z, hz⟩ : ∃ z, cmpP (keyP ek) (keyP key) = z := ⟨_, rfl⟩
        have HF := Lib.hid (show foundF (slts t) (keyP key) = (z == 0) by
          unfold foundF
          rw [HP.out, List.getElem?_eq_getElem hk]
          dsimp only
          rw [cmp_at hk hek, hz]
          by_cases h : z = 0 <;> simp [h])
        have HZ := Lib.hid hz
        clear eP eKl r1 r2 s1 s2 hf hev hek hz
        go_wp2_with fail
        refine (closureJ_calls ek eu eA eB enl ecl enm ecm key _).mono ?_
        rintro e w4 ⟨rfl, b4⟩
        rw [HZ.out]
        have HB4 := Lib.hid (hbe.out.then_ b4)
        clear b4 eK f0 f1 f2 f3 f4 f5
        go_wp2_with fail
        go_ret2
        refine ⟨?_, HB4.out⟩
        rw [HF.out]; rfl
      · obtain rfl : b = n := by omega
        have HF := Lib.hid (show foundF (slts t) (keyP key) = false by
          unfold foundF
          rw [HP.out, HH.out.2, List.getElem?_eq_none (Nat.le_refl _)])
        go_wp2_with fail
        go_ret2
        refine ⟨?_, hbe.out⟩
        rw [HF.out]; rfl
end Go.Proofs.YtkbcbikilgcckaaGreatDoor
namespace Go.Proofs.YtkbcbikilgcckaaGreatDoor
open Go.ChangeShapes Go.WideShapes Go.ChangeAt Go.RowKit Go.IntWalk
set_option linter.unusedVariables false
set_option maxRecDepth 100000

theorem ext_le_bulk : ∀ t : JT, t.ext ≤ t.bulk
  | .nil => Nat.le_refl _
  | .cons k kd is n s l m r => by have := ext_le_bulk r; simp only [JT.ext, JT.bulk]; omega
def tyM (mem : Bool) : TypeId := if mem then 42 else 25
def tsM (mem : Bool) : TypeId := if mem then 23 else 22
theorem info_memD : (Tryz.prog.info? 42).map (fun i => (i.zero, i.size, i.bytes)) = some (some (.agg #[.string ⟨#[]⟩, .int .i64 0, .bool false, .int .i64 0, .string ⟨#[]⟩, .slice none 0 0, .slice none 0 0]), 7, 104) := by kernel_rfl
theorem info_valD : (Tryz.prog.info? 25).map (fun i => (i.zero, i.size, i.bytes)) = some (some (.agg #[.int .i64 0, .bool false, .int .i64 0, .string ⟨#[]⟩, .slice none 0 0, .slice none 0 0]), 6, 88) := by kernel_rfl
theorem info_row (mem : Bool) : ∃ i z, Tryz.prog.info? (tyM mem) = some i ∧ i.zero = some z ∧ i.size = stM mem ∧ i.bytes = (if mem then 104 else 88) ∧ z.cells.size = stM mem := by
  cases mem with
  | true => obtain ⟨i, h1, h2, h3, h4⟩ := info_parts info_memD; exact ⟨i, _, h1, h2, h3, h4, rfl⟩
  | false => obtain ⟨i, h1, h2, h3, h4⟩ := info_parts info_valD; exact ⟨i, _, h1, h2, h3, h4, rfl⟩
theorem under_row (mem : Bool) : Tryz.prog.underlying (tsM mem) = some (.slice (tyM mem)) := by
  cases mem with
  | true => exact Tryz.underlying23
  | false => exact Tryz.underlying22
/-- A row out of its elements. -/
theorem JIn.of {P : Nat → Prop} {w : World} : ∀ (t : JT) (mem : Bool) (b o : Nat),
    (∀ i, i < t.ext → (if mem then w.cell? ⟨b, o + i * stM mem, none⟩ = some (strV (t.fall i).key) ∧ (t.fall i).key.length ≤ 140737488355328 else (t.fall i).key = []) ∧
      ∃ cs, w.rangeAt b (o + i * stM mem + kwM mem) cs ∧ JCs P w cs (t.fall i).val) → JIn P w mem b o t
  | .nil, _, _, _, _ => trivial
  | .cons k kd is n s l m r, mem, b, o, h => by
    obtain ⟨h1, cs, h2, A, nl, cl, B, nm, cm, rfl, h3, h4, h5, h6, h7⟩ := h 0 (by simp [JT.ext])
    rw [Nat.zero_mul, Nat.add_zero] at h1 h2
    refine ⟨h1, ⟨A, nl, cl, B, nm, cm, h2, h3, h4, h5, h6⟩, h7, JIn.of r mem b _ (fun i hi => ?_)⟩
    have := h (i + 1) (by simp [JT.ext]; omega)
    rw [show o + (i + 1) * stM mem = o + stM mem + i * stM mem by rw [Nat.succ_mul]; omega] at this
    exact this
/-- 'L' is a row of the call's own: the first k of t, the parts in blocks of the call's own. -/
def RowE (P : Nat → Prop) (mem : Bool) (w : World) (cs : List Value) (t : JT) (i : Nat) : Prop :=
  (if mem then cs[i * stM mem]? = some (strV (t.fall i).key) ∧ (t.fall i).key.length ≤ 140737488355328 else (t.fall i).key = []) ∧
    ∃ e : List Value, (∀ j v, e[j]? = some v → cs[i * stM mem + kwM mem + j]? = some v) ∧ JCs P w e (t.fall i).val
def RowJ (base : Nat) (mem : Bool) (w : World) (L : Value) (t : JT) (k : Nat) : Prop :=
  ∃ cs : List Value, w.ownsRow base (tyM mem) (stM mem) L k cs ∧ ∀ i, i < k → RowE (fun b => base ≤ b ∧ b < w.heap.size ∧ L.ownBlock ≠ some b) mem w cs t i
def newC (mem : Bool) (key : List UInt8) (e : List Value) : List Value := if mem then strV key :: e else e
section
variable {base k : Nat} {mem : Bool} {w w' : World} {L : Value} {t : JT}
theorem RowJ.nil (base : Nat) (mem : Bool) (w : World) (t : JT) : RowJ base mem w (.slice none 0 0) t 0 := ⟨[], World.ownsRow_nil w base _ _, fun i hi => absurd hi (Nat.not_lt_zero i)⟩
theorem RowJ.lt (h : RowJ base mem w L t k) : ∀ b, L.ownBlock = some b → base ≤ b ∧ b < w.heap.size := by obtain ⟨cs, h1, _⟩ := h; exact World.ownsRow.lt h1
theorem RowJ.below (h : RowJ base mem w L t k) (hg : Below w.heap.size w w') : RowJ base mem w' L t k := by
  obtain ⟨cs, h0, h1⟩ := h
  refine ⟨cs, ⟨h0.1, ?_⟩, fun i hi => ⟨(h1 i hi).1, ?_⟩⟩
  · rcases h0.2 with h2 | ⟨g, cap, cur, hv, hb, hh, r⟩
    · exact .inl h2
    · exact .inr ⟨g, cap, cur, hv, hb, by rw [hg.block g ((Array.getElem?_eq_some_iff.1 hh).1)]; exact hh, r⟩
  · obtain ⟨_, e, h2, h3⟩ := h1 i hi
    exact ⟨e, h2, h3.stay (fun b o hb => hg.cell (p := ⟨b, o, none⟩) hb.2.1) (fun b hb => ⟨hb.1, Nat.lt_of_lt_of_le hb.2.1 hg.size, hb.2.2⟩)⟩
theorem RowJ.alloc (h : RowJ base mem w L t k) (o : Obj) : RowJ base mem (w.alloc o) L t k := h.below ((Below.refl _ _).alloc (Nat.le_refl _) _)
theorem RowJ.drewN (h : RowJ base mem w L t k) (n : Nat) : RowJ base mem (w.drewN n) L t k := h.below ((Below.refl _ _).drewN n)
theorem RowJ.grown {w0 : World} (hb : Below base w0 w) (h : RowJ base mem w L t k) (hg : w.grownBy w' L.ownBlock) (hw : base ≤ w.heap.size) : Below base w0 w' := by
  refine ⟨hg.os.trans hb.os, hg.tape.trans hb.tape, hg.output.trans hb.output, Nat.le_trans hb.size hg.size, fun k hk => ?_⟩
  refine (hg.block k (Nat.lt_of_lt_of_le hk hw) (fun e => ?_)).trans (hb.block k hk)
  have := (h.lt k e.symm).1
  omega
theorem getD_app_l {α : Type} {xs ys : List α} {i : Nat} {v : α} (h : xs[i]? = some v) : (xs ++ ys)[i]? = some v := by
  rw [List.getElem?_append_left (List.getElem?_eq_some_iff.1 h).1]; exact h
theorem getD_app_r {α : Type} {xs ys : List α} {i : Nat} : (xs ++ ys)[xs.length + i]? = ys[i]? := by
  rw [List.getElem?_append_right (Nat.le_add_right _ _)]; congr 1; omega
theorem RowJ.app {cs : List Value} {g cap : Nat} (h1 : ∀ i, i < k → RowE (fun b => base ≤ b ∧ b < w.heap.size ∧ L.ownBlock ≠ some b) mem w cs t i) (hl : cs.length = k * stM mem)
    (hg : w.grownBy w' L.ownBlock) (hgg : L.ownBlock = some g ∨ g = w.heap.size) (e : List Value)
    (hkey : if mem then (t.fall k).key.length ≤ 140737488355328 else (t.fall k).key = [])
    (h' : w'.ownsRow base (tyM mem) (stM mem) (.slice (some ⟨g, 0, none⟩) (k + 1) cap) (k + 1) (cs ++ newC mem (t.fall k).key e))
    (hc : JCs (fun b => base ≤ b ∧ b < w.heap.size ∧ L.ownBlock ≠ some b) w e (t.fall k).val) : RowJ base mem w' (.slice (some ⟨g, 0, none⟩) (k + 1) cap) t (k + 1) := by
  have hst : ∀ {e : List Value} {v : Jv}, JCs (fun b => base ≤ b ∧ b < w.heap.size ∧ L.ownBlock ≠ some b) w e v →
      JCs (fun b => base ≤ b ∧ b < w'.heap.size ∧ (Value.slice (some ⟨g, 0, none⟩) (k + 1) cap).ownBlock ≠ some b) w' e v := fun h =>
    h.stay (fun b o hb => hg.cell_far ⟨b, o, none⟩ hb.2.1 (fun e => hb.2.2 e.symm)) (fun b hb => ⟨hb.1, Nat.lt_of_lt_of_le hb.2.1 hg.size, fun e => by
      simp only [Value.ownBlock, Option.some.injEq] at e
      rcases hgg with h2 | h2
      · exact hb.2.2 (by rw [h2, e])
      · have := hb.2.1; omega⟩)
  refine ⟨_, h', fun i hi => ?_⟩
  rcases Nat.lt_succ_iff_lt_or_eq.1 hi with hi | rfl
  · obtain ⟨h2, e2, h3, h4⟩ := h1 i hi
    refine ⟨?_, e2, fun j v hj => getD_app_l (h3 j v hj), hst h4⟩
    cases mem with
    | true => exact ⟨getD_app_l h2.1, h2.2⟩
    | false => exact h2
  · refine ⟨?_, e, fun j v hj => ?_, hst hc⟩
    · cases mem with
      | true => refine ⟨?_, hkey⟩; rw [← hl, show cs.length = cs.length + 0 from rfl, getD_app_r]; rfl
      | false => exact hkey
    · rw [← hl, Nat.add_assoc, getD_app_r]
      cases mem with
      | true => rw [show kwM true = 1 from rfl, Nat.add_comm]; exact hj
      | false => rw [show kwM false = 0 from rfl, Nat.zero_add]; exact hj
theorem RowJ.done (h : RowJ base mem w L t t.ext) (he : t.ext ≤ 140737488355328) : ∃ (A : Option Addr) (c : Nat), L = .slice A t.ext c ∧ Room t.ext c t.ext ∧ JSl (fun b => base ≤ b ∧ b < w.heap.size) w mem A t := by
  obtain ⟨cs, h0, h1⟩ := h
  rcases h0.2 with ⟨rfl, hn⟩ | ⟨g, cap, cur, rfl, hb, hh, hnc, hmx, hs, ht⟩
  · refine ⟨none, 0, by rw [hn], ⟨rfl, by omega, he⟩, .inl ?_⟩
    cases t with
    | nil => rfl
    | cons => simp [JT.ext] at hn
  · refine ⟨_, cap, rfl, ⟨rfl, hnc, he⟩, .inr ⟨g, 0, rfl, ⟨hb, (Array.getElem?_eq_some_iff.1 hh).1⟩, JIn.of t mem g 0 (fun i hi => ?_)⟩⟩
    have hc : ∀ (k : Nat) (u : Value), cs[k]? = some u → w.cell? ⟨g, k, none⟩ = some u := fun k u hu => by
      rw [cell_of_row _ _ _ _ _ _ hh]
      rw [← ht] at hu
      simp only [List.getElem?_take] at hu
      split at hu
      · simpa using hu
      · cases hu
    obtain ⟨h2, e, h3, h4⟩ := h1 i hi
    refine ⟨?_, e, fun j v hj => ?_, h4.stay (fun _ _ _ => rfl) (fun b hb => ⟨hb.1, hb.2.1⟩)⟩
    · cases mem with
      | true => exact ⟨by rw [Nat.zero_add]; exact hc _ _ h2.1, h2.2⟩
      | false => exact h2
    · rw [Nat.zero_add]; exact hc _ _ (h3 j v hj)
end
/-- 'append(own, one element)'. -/
theorem wp_append_row {o : Oper} {a : Act} {K : Act → World → Prop} {Q : Exit → Act → World → Prop} {W : World} (mem : Bool) (s x : Operand)
    (ho : o.op = .call { callee := .builtin .append, args := #[s, x], argTypes := #[tsM mem, tsM mem] })
    (base H : Nat) (L : Value) (t : JT) (k : Nat) (hs : a.eval s = L) (hrow : RowJ base mem W L t k) (hk : k ≤ 1000000) (hbH : base ≤ H) (hHL : ∀ b, L.ownBlock = some b → b < H) (hHW : H ≤ W.heap.size)
    (B : Nat) (e : List Value) (hkey : if mem then (t.fall k).key.length ≤ 140737488355328 else (t.fall k).key = [])
    (hx : a.eval x = .slice (some ⟨B, 0, none⟩) 1 1) (hB : Blk W B (tyM mem) (newC mem (t.fall k).key e)) (hc : JCs (fun b => H ≤ b ∧ b < W.heap.size) W e (t.fall k).val)
    (h : ∀ A c w', RowJ base mem w' (.slice A (k + 1) c) t (k + 1) → W.grownBy w' L.ownBlock → K (a.put o.dst (.slice A (k + 1) c)) w') : o.wp Tryz.prog a W K Q := by
  obtain ⟨i, z, hi, hz, hsz, hby, hzs⟩ := info_row mem
  obtain ⟨cs, hown, h1⟩ := hrow
  have h6 : e.length = 6 := by obtain ⟨A, nl, cl, B, nm, cm, rfl, _⟩ := hc; rfl
  have h1c : ∀ u ∈ newC mem (t.fall k).key e, u.oneCell' = true := by
    obtain ⟨A, nl, cl, B, nm, cm, rfl, _⟩ := hc
    intro u hu
    cases mem with
    | true =>
      simp only [newC, if_true, List.mem_cons, List.not_mem_nil, or_false] at hu
      rcases hu with rfl | rfl | rfl | rfl | rfl | rfl | rfl <;> rfl
    | false =>
      simp only [newC, Bool.false_eq_true, if_false, List.mem_cons, List.not_mem_nil, or_false] at hu
      rcases hu with rfl | rfl | rfl | rfl | rfl | rfl <;> rfl
  have hnl : (newC mem (t.fall k).key e).length = 1 * stM mem := by
    cases mem with
    | true => simp [newC, h6, stM, kwM]
    | false => simp [newC, h6, stM, kwM]
  have hb : (k + 1) * i.bytes ≤ 140737488355328 := by
    rw [hby]
    cases mem with
    | true => simp only [if_true]; omega
    | false => simp only [Bool.false_eq_true, if_false]; omega
  refine wp_append_lies W s x (tsM mem) ho base (tyM mem) i z (stM mem) i.bytes (under_row mem) hi hz hsz rfl hzs (by cases mem <;> decide) L k cs hs hown ⟨B, 0, none⟩ 1 1 (newC mem (t.fall k).key e) hx hnl ?_ h1c (by decide) (Nat.le_trans (show k + 1 ≤ 1000001 by omega) (by decide)) hb (Nat.le_trans hbH hHW) _ rfl ?_
  · intro j u hj
    have hplain : (⟨B, 0, none⟩ : Addr).add j = ⟨B, j, none⟩ := by unfold Addr.add; split <;> simp_all
    rw [hplain]
    exact hB.cell hj
  · intro g cap w' h2 h3 h4 _
    exact h _ cap w' (RowJ.app h1 hown.1 h3 h4 e hkey h2 (hc.stay (fun _ _ _ => rfl) (fun b hb => ⟨Nat.le_trans hbH hb.1, hb.2, fun e => by have := hHL b e; have := hb.1; omega⟩))) h3
/-- .. in a list of operations, the element just built. -/
theorem wpList_append_row {ops : Array Oper} {rest : List Oper} {o : Oper} {a : Act} {Q : Exit → Act → World → Prop} {W : World} (mem : Bool) (hgd : o.guard = none) (s x : Operand)
    (ho : o.op = .call { callee := .builtin .append, args := #[s, x], argTypes := #[tsM mem, tsM mem] })
    (base H : Nat) (L : Value) (t : JT) (k : Nat) (hs : a.eval s = L) (hrow : RowJ base mem W L t k) (hk : k ≤ 1000000) (hbH : base ≤ H) (hHL : ∀ b, L.ownBlock = some b → b < H) (hHW : H ≤ W.heap.size)
    (e : List Value) (hkey : if mem then (t.fall k).key.length ≤ 140737488355328 else (t.fall k).key = []) (C : Array Value) (T : TypeId) (hT : T = tyM mem) (hC : C = (newC mem (t.fall k).key e).toArray)
    (hx : a.eval x = .slice (some ⟨W.heap.size, 0, none⟩) 1 1) (hc : JCs (fun b => H ≤ b ∧ b < W.heap.size) W e (t.fall k).val)
    (h : ∀ A c w', RowJ base mem w' (.slice A (k + 1) c) t (k + 1) → W.grownBy w' L.ownBlock → wpList Tryz.prog ops Q rest (a.put o.dst (.slice A (k + 1) c)) w') :
    wpList Tryz.prog ops Q (o :: rest) a (W.alloc (.cells C T)) := by
  subst hT hC
  refine wpList_plain hgd fun K hK => wp_append_row mem s x ho base H L t k hs (hrow.alloc _) hk hbH hHL (by simp; omega) W.heap.size e hkey hx (Blk.new W _ _) ?_ ?_
  · exact hc.stay (fun b o hb => ((Below.refl _ _).alloc (Nat.le_refl _) _ : Below W.heap.size W _).cell (p := ⟨b, o, none⟩) hb.2) (fun b hb => ⟨hb.1, by simp; omega⟩)
  · intro A c w' h1 h2
    exact hK _ _ (h A c w' h1 ⟨h2.os, h2.tape, h2.output, Nat.le_trans (by simp) h2.size, fun k hk hne => (h2.block k (by simp; omega) hne).trans (heap_alloc_old W _ hk)⟩)
/-- .. at a step of a region that draws its order. -/
theorem step_append_row {ops : Array Oper} {o : Oper} {a : Act} {K : Act → World → Prop} {Q : Exit → Act → World → Prop} {E : Prop} {W : World} (mem : Bool) (hgd : o.guard = none) (s x : Operand)
    (ho : o.op = .call { callee := .builtin .append, args := #[s, x], argTypes := #[tsM mem, tsM mem] })
    (w0 w6 : World) (hb6 : Below w6.heap.size w6 W) (H : Nat) (L : Value) (t : JT) (k : Nat) (hs : a.eval s = L) (hrow : RowJ w0.heap.size mem w6 L t k) (hb0 : Below w0.heap.size w0 w6) (hk : k ≤ 1000000) (hbH : w0.heap.size ≤ H) (hHL : ∀ b, L.ownBlock = some b → b < H) (hHW : H ≤ w6.heap.size)
    (e : List Value) (hkey : if mem then (t.fall k).key.length ≤ 140737488355328 else (t.fall k).key = []) (B : Nat)
    (hx : a.eval x = .slice (some ⟨B, 0, none⟩) 1 1) (hB : Blk W B (tyM mem) (newC mem (t.fall k).key e)) (hc : JCs (fun b => H ≤ b ∧ b < w6.heap.size) w6 e (t.fall k).val)
    (h : ∀ A c w', RowJ w0.heap.size mem w' (.slice A (k + 1) c) t (k + 1) → Below w0.heap.size w0 w' → (∀ b, b < w6.heap.size → L.ownBlock ≠ some b → w'.heap[b]? = w6.heap[b]?) → K (a.put o.dst (.slice A (k + 1) c)) w') :
    if Region.wanted o (yielded ops a.tmps) = true then Oper.wp Tryz.prog o a W K Q else E := by
  have hw : Region.wanted o (yielded ops a.tmps) = true := by simp [Region.wanted, hgd]
  rw [if_pos hw]
  refine wp_append_row mem s x ho w0.heap.size H L t k hs (hrow.below hb6) hk hbH hHL (Nat.le_trans hHW hb6.size) B e hkey hx hB ?_ ?_
  · exact hc.stay (fun b o hb => hb6.cell (p := ⟨b, o, none⟩) hb.2) (fun b hb => ⟨hb.1, Nat.lt_of_lt_of_le hb.2 hb6.size⟩)
  · intro A c w' h1 h2
    exact h A c w' h1 (RowJ.grown (hb0.then_ hb6) (hrow.below hb6) h2 (Nat.le_trans hb0.size hb6.size)) (fun b hb hne => (h2.block b (Nat.lt_of_lt_of_le hb hb6.size) (fun e => hne e.symm)).trans (hb6.block b hb))
/-- A value whose parts lie in blocks from lo on. -/
def VNew (lo : Nat) (w : World) (v : Jv) (A B : Option Addr) (nl cl nm cm : Nat) : Prop :=
  Room nl cl v.l.ext ∧ Room nm cm v.m.ext ∧ JSl (fun b => lo ≤ b ∧ b < w.heap.size) w false A v.l ∧ JSl (fun b => lo ≤ b ∧ b < w.heap.size) w true B v.m ∧ Fit v.kd v.n v.s
theorem VNew.ok {lo : Nat} {w : World} {v : Jv} {A B : Option Addr} {nl cl nm cm : Nat} (h : VNew lo w v A B nl cl nm cm) : VOk w v A B nl cl nm cm :=
  ⟨h.1, h.2.1, h.2.2.1.stay (fun _ _ _ => rfl) (fun _ hb => hb.2), h.2.2.2.1.stay (fun _ _ _ => rfl) (fun _ hb => hb.2), h.2.2.2.2⟩
theorem VNew.cs {lo : Nat} {w : World} {v : Jv} {A B : Option Addr} {nl cl nm cm : Nat} (h : VNew lo w v A B nl cl nm cm) :
    JCs (fun b => lo ≤ b ∧ b < w.heap.size) w [.int .i64 v.kd, .bool v.is, .int .i64 v.n, strV v.s, .slice A nl cl, .slice B nm cm] v := ⟨A, nl, cl, B, nm, cm, rfl, h.1, h.2.1, h.2.2.1, h.2.2.2.1, h.2.2.2.2⟩
end Go.Proofs.YtkbcbikilgcckaaGreatDoor
namespace Go.Proofs.YtkbcbikilgcckaaGreatDoor
open Go.ChangeShapes Go.WideShapes Go.ChangeAt Go.RowKit Go.IntWalk
set_option linter.unusedVariables false
set_option maxRecDepth 100000

theorem newC_len {mem : Bool} {k : List UInt8} {e : List Value} (h : e.length = 6) : (newC mem k e).length = stM mem := by
  cases mem with
  | true => simp [newC, h, stM, kwM]
  | false => simp [newC, h, stM, kwM]
theorem RowE.shift {P : Nat → Prop} {mem : Bool} {w : World} {ds : List Value} {k s : List UInt8} {kd n : Int} {is : Bool} {l m r : JT} {i : Nat} (hd : List Value) (hl : hd.length = stM mem)
    (h : RowE P mem w ds r i) : RowE P mem w (hd ++ ds) (.cons k kd is n s l m r) (i + 1) := by
  obtain ⟨h1, e, h2, h3⟩ := h
  have e1 : (i + 1) * stM mem = hd.length + i * stM mem := by rw [hl, Nat.succ_mul, Nat.add_comm]
  refine ⟨?_, e, fun j v hj => ?_, h3⟩
  · cases mem with
    | true => exact ⟨by rw [e1, getD_app_r]; exact h1.1, h1.2⟩
    | false => exact h1
  · rw [e1, Nat.add_assoc, Nat.add_assoc, getD_app_r, ← Nat.add_assoc]; exact h2 j v hj
/-- A row's cells, one behind the other. -/
theorem JIn.flat {P : Nat → Prop} {w : World} : ∀ (t : JT) (mem : Bool) (b o : Nat), JIn P w mem b o t →
    ∃ ds, w.rangeAt b o ds ∧ ds.length = t.ext * stM mem ∧ (∀ u ∈ ds, u.oneCell' = true) ∧ ∀ i, i < t.ext → RowE P mem w ds t i
  | .nil, mem, b, o, _ => ⟨[], fun j v h => by simp at h, by simp [JT.ext], fun u hu => (by cases hu), fun i hi => absurd hi (by simp [JT.ext])⟩
  | .cons k kd is n s l m r, mem, b, o, h => by
    obtain ⟨hk, ⟨A, nl, cl, B, nm, cm, hr, h3, h4, h5, h6⟩, h7, hrest⟩ := h
    obtain ⟨ds, g1, g2, g3, g4⟩ := JIn.flat r mem b _ hrest
    have hl := newC_len (mem := mem) (k := k) (e := [.int .i64 kd, .bool is, .int .i64 n, strV s, .slice A nl cl, .slice B nm cm]) rfl
    refine ⟨newC mem k [.int .i64 kd, .bool is, .int .i64 n, strV s, .slice A nl cl, .slice B nm cm] ++ ds, ?_, ?_, ?_, ?_⟩
    · intro j v hj
      by_cases hlt : j < (newC mem k [.int .i64 kd, .bool is, .int .i64 n, strV s, .slice A nl cl, .slice B nm cm]).length
      · rw [List.getElem?_append_left hlt] at hj
        cases mem with
        | false => exact hr j v hj
        | true =>
          match j, hj with
          | 0, hj =>
            simp only [newC, if_true, List.getElem?_cons_zero, Option.some.injEq] at hj
            subst hj; exact hk.1
          | j + 1, hj =>
            have := hr j v (by simpa [newC] using hj)
            rw [show kwM true = 1 from rfl] at this
            rw [show o + (j + 1) = o + 1 + j by omega]
            exact this
      · rw [List.getElem?_append_right (Nat.le_of_not_lt hlt)] at hj
        have := g1 _ v hj
        rw [hl] at this hlt
        rw [show o + stM mem + (j - stM mem) = o + j by omega] at this
        exact this
    · rw [List.length_append, hl, g2]
      show _ = (r.ext + 1) * stM mem
      rw [Nat.succ_mul, Nat.add_comm]
    · intro u hu
      rcases List.mem_append.1 hu with hu | hu
      · cases mem with
        | true =>
          simp only [newC, if_true, List.mem_cons, List.not_mem_nil, or_false] at hu
          rcases hu with rfl | rfl | rfl | rfl | rfl | rfl | rfl <;> rfl
        | false =>
          simp only [newC, Bool.false_eq_true, if_false, List.mem_cons, List.not_mem_nil, or_false] at hu
          rcases hu with rfl | rfl | rfl | rfl | rfl | rfl <;> rfl
      · exact g3 u hu
    · intro i hi
      cases i with
      | zero =>
        refine ⟨?_, [.int .i64 kd, .bool is, .int .i64 n, strV s, .slice A nl cl, .slice B nm cm], fun j v hj => ?_, A, nl, cl, B, nm, cm, rfl, h3, h4, h5, h6, h7⟩
        · cases mem with
          | true => exact ⟨rfl, hk.2⟩
          | false => exact hk
        · rw [Nat.zero_mul, Nat.zero_add]
          refine getD_app_l ?_
          cases mem with
          | true => rw [show kwM true = 1 from rfl, Nat.add_comm]; exact hj
          | false => rw [show kwM false = 0 from rfl, Nat.zero_add]; exact hj
      | succ i => exact (g4 i (by simp [JT.ext] at hi; omega)).shift _ hl
theorem RowE.cs {P : Nat → Prop} {mem : Bool} {w : World} {ds cs : List Value} {t : JT} {i : Nat} (h : RowE P mem w ds t i) (hc : ∀ (x : Nat) (v : Value), ds[x]? = some v → cs[x]? = some v) : RowE P mem w cs t i := by
  obtain ⟨h1, e, h2, h3⟩ := h
  refine ⟨?_, e, fun j v hj => hc _ _ (h2 j v hj), h3⟩
  cases mem with
  | true => exact ⟨hc _ _ h1.1, h1.2⟩
  | false => exact h1
theorem RowE.stay {P Q : Nat → Prop} {mem : Bool} {w w' : World} {cs : List Value} {t : JT} {i : Nat} (h : RowE P mem w cs t i) (hP : ∀ b o, P b → w'.cell? ⟨b, o, none⟩ = w.cell? ⟨b, o, none⟩) (hPQ : ∀ b, P b → Q b) : RowE Q mem w' cs t i := by
  obtain ⟨h1, e, h2, h3⟩ := h
  exact ⟨h1, e, h2, h3.stay hP hPQ⟩
/-- A clone of a row: in a block of its own, the parts where they were. -/
def ClonePost (P : Nat → Prop) (mem : Bool) (t : JT) (n : Nat) (w : World) (e : Ending) (w' : World) : Prop :=
  (∃ (A : Option Addr) (c : Nat), e = .returned (.slice A n c) ∧ n ≤ c ∧ (t.ext = 0 ∨ ∃ g cs, A = some ⟨g, 0, none⟩ ∧ w.heap.size ≤ g ∧ Blk w' g (tyM mem) cs ∧ n * stM mem ≤ cs.length ∧
    ∀ i, i < t.ext → RowE P mem w' cs t i) ∧ ∃ ds, w'.ownsRow w.heap.size (tyM mem) (stM mem) (.slice A n c) n ds ∧ ∀ i, i < t.ext → RowE P mem w' ds t i) ∧ Below w.heap.size w w'
theorem clone_none {P : Nat → Prop} {mem : Bool} {t : JT} {w : World} (h : t.ext = 0) : ClonePost P mem t 0 w (.returned (.slice none 0 0)) w :=
  ⟨⟨none, 0, rfl, Nat.zero_le _, .inl h, [], World.ownsRow_nil _ _ _ _, fun i hi => absurd hi (by omega)⟩, Below.refl _ _⟩
theorem own_empty {base : Nat} {mem : Bool} {w : World} (hb : base ≤ w.heap.size) : (w.alloc (.cells #[] (tyM mem))).ownsRow base (tyM mem) (stM mem) (.slice (some ⟨w.heap.size, 0, none⟩) 0 0) 0 [] :=
  ⟨by simp, .inr ⟨w.heap.size, 0, #[], rfl, hb, heap_alloc_new w _, Nat.le_refl _, by decide, by simp, by simp⟩⟩
/-- 'append([]T{}, row...)'. -/
theorem wpList_clone {ops : Array Oper} {rest : List Oper} {o : Oper} {a : Act} {Q : Exit → Act → World → Prop} {w : World} (P : Nat → Prop) (hP : ∀ b, P b → b < w.heap.size) (mem : Bool) (hgd : o.guard = none) (s x : Operand)
    (ho : o.op = .call { callee := .builtin .append, args := #[s, x], argTypes := #[tsM mem, tsM mem] })
    (T : TypeId) (hT : T = tyM mem) (hs : a.eval s = .slice (some ⟨w.heap.size, 0, none⟩) 0 0) (A : Addr) (n c : Nat) (t : JT) (hx : a.eval x = .slice (some A) n c) (hn : n = t.ext) (hn6 : n ≤ 1000000) (hl : JSl P w mem (some A) t)
    (h : ∀ v' w', ClonePost P mem t n w (.returned v') w' → wpList Tryz.prog ops Q rest (a.put o.dst v') w') :
    wpList Tryz.prog ops Q (o :: rest) a (w.alloc (.cells #[] T)) := by
  subst hT
  obtain ⟨i, z, hi, hz, hsz, hby, hzs⟩ := info_row mem
  have hflat : ∃ ds, (∀ j u, ds[j]? = some u → w.cell? (A.add j) = some u) ∧ ds.length = n * stM mem ∧ (∀ u ∈ ds, u.oneCell' = true) ∧ ∀ i, i < t.ext → RowE P mem w ds t i := by
    rcases hl with ht | ⟨b, off, e, hb, hj⟩
    · subst ht
      exact ⟨[], fun j u hj => by simp at hj, by rw [hn]; simp [JT.ext], fun u hu => (by cases hu), fun i hi => absurd hi (by simp [JT.ext])⟩
    · injection e with e
      obtain ⟨ds, g1, g2, g3, g4⟩ := JIn.flat t mem b off hj
      refine ⟨ds, fun j u hju => ?_, by rw [g2, hn], g3, g4⟩
      have hplain : A.add j = ⟨b, off + j, none⟩ := by rw [e]; unfold Addr.add; split <;> simp_all
      rw [hplain]; exact g1 j u hju
  obtain ⟨ds, g1, g2, g3, g4⟩ := hflat
  have hal : Below w.heap.size w (w.alloc (.cells #[] (tyM mem))) := (Below.refl _ _).alloc (Nat.le_refl _) _
  have hbb : (0 + n) * i.bytes ≤ 140737488355328 := by
    rw [hby]
    cases mem with
    | true => simp only [if_true]; omega
    | false => simp only [Bool.false_eq_true, if_false]; omega
  refine wpList_append_own _ hgd s x (tsM mem) ho w.heap.size (tyM mem) i z (stM mem) i.bytes (under_row mem) hi hz hsz rfl hzs (by cases mem <;> decide) _ 0 [] hs (own_empty (Nat.le_refl _)) A n c ds hx g2 ?_ g3 (by rw [Nat.zero_add]; exact Nat.le_trans hn6 (by decide)) hbb (by simp) ?_
  · intro j u hj
    have h1 := g1 j u hj
    have hblk : (A.add j).block < w.heap.size := World.block_lt_of_cell? w _ h1
    exact (hal.cell (p := A.add j) hblk).trans h1
  · intro v' w' h2 h3 _
    have hb : Below w.heap.size w w' := by
      refine ⟨h3.os, h3.tape, h3.output, Nat.le_trans (by simp) h3.size, fun k hk => ?_⟩
      refine (h3.block k (by simp; omega) (fun e => ?_)).trans (heap_alloc_old w _ hk)
      simp only [Value.ownBlock, Option.some.injEq] at e
      omega
    refine h v' w' ⟨?_, hb⟩
    rw [Nat.zero_add, List.nil_append] at h2
    have hds : ∀ i, i < t.ext → RowE P mem w' ds t i := fun i hi => (g4 i hi).stay (fun b o hlt => hb.cell (p := ⟨b, o, none⟩) (hP b hlt)) (fun b hlt => hlt)
    have h2' := h2
    rcases h2.2 with ⟨rfl, hn0⟩ | ⟨g, cap, cur, rfl, hbg, hh, hnc, hmx, hcs, ht⟩
    · exact ⟨none, 0, by rw [hn0], by omega, .inl (by omega), ds, by rw [hn0] at h2' ⊢; exact h2', hds⟩
    · refine ⟨some ⟨g, 0, none⟩, cap, rfl, hnc, .inr ⟨g, cur.toList, rfl, hbg, by unfold Blk; rw [Array.toArray_toList]; exact hh, by rw [Array.length_toList, hcs]; exact Nat.mul_le_mul_right _ hnc, fun i hi => ?_⟩, ds, h2', hds⟩
      refine ((g4 i hi).cs fun k u hu => ?_).stay (fun b o hlt => hb.cell (p := ⟨b, o, none⟩) (hP b hlt)) (fun b hlt => hlt)
      rw [← ht] at hu
      simp only [List.getElem?_take] at hu
      split at hu
      · exact hu
      · cases hu
end Go.Proofs.YtkbcbikilgcckaaGreatDoor
