/- Texts put together: QuM QuR. -/
import Derived.Test.YtajkgcmopmpihaaGreatDoorY37cd5bd6c1
import Derived.Lib.AppendStr
import Derived.Test.YtajkgcmopmpihaaGreatDoorY49b39df4f7
namespace Go.Proofs.YtajkgcmopmpihaaGreatDoor
open Go.ChangeShapes Go.WideShapes Go.ChangeAt Go.RowKit Go.IntWalk
set_option linter.unusedVariables false
def hexI (o : Option Nat) : Int := match o with | none => -1 | some n => (n : Int)
theorem hexI_no {o : Option Nat} (h : o = none) : Ending.returned (.int .i64 (-1)) = .returned (.int .i64 (hexI o)) := by rw [h]; rfl
theorem hexI_yes {o : Option Nat} {n : Nat} (h : o = some n) : Ending.returned (.int .i64 (n : Int)) = .returned (.int .i64 (hexI o)) := by rw [h]; rfl
theorem hexF_cons (r : List UInt8) (h : 4 ≤ r.length) : hexF (92 :: 117 :: r) = hexN 0 (r.take 4) := by
  unfold hexF
  rw [if_pos ⟨by simp; omega, rfl, rfl⟩]
  rfl
theorem digV_kinds (c : UInt8) : (48 ≤ c.toNat ∧ c.toNat ≤ 57 ∧ digV c = some (c.toNat - 48)) ∨ (97 ≤ c.toNat ∧ c.toNat ≤ 102 ∧ digV c = some (c.toNat - 87)) ∨ (65 ≤ c.toNat ∧ c.toNat ≤ 70 ∧ digV c = some (c.toNat - 55)) ∨
    (digV c = none ∧ (c.toNat < 48 ∨ 57 < c.toNat ∧ c.toNat < 65 ∨ 70 < c.toNat ∧ c.toNat < 97 ∨ 102 < c.toNat)) := by
  unfold digV
  by_cases h1 : 48 ≤ c.toNat ∧ c.toNat ≤ 57
  · rw [if_pos h1]; exact .inl ⟨h1.1, h1.2, rfl⟩
  · rw [if_neg h1]
    by_cases h2 : 97 ≤ c.toNat ∧ c.toNat ≤ 102
    · rw [if_pos h2]; exact .inr (.inl ⟨h2.1, h2.2, rfl⟩)
    · rw [if_neg h2]
      by_cases h3 : 65 ≤ c.toNat ∧ c.toNat ≤ 70
      · rw [if_pos h3]; exact .inr (.inr (.inl ⟨h3.1, h3.2, rfl⟩))
      · rw [if_neg h3]; exact .inr (.inr (.inr ⟨rfl, by omega⟩))
theorem hex_end (q : List UInt8) (k acc d : Nat) (X : Option Nat) (s : List UInt8) (v j : Int) (hp : k < 4) (hq : q.length = 4) (ha : acc < 16 ^ k) (hd : d < 16) (hv : v = 16 * (acc : Int) + (d : Int)) (hj : j = (k : Int) + 2 + 1) (hs : q.drop (k + 1) = s) (hx : X = hexN (16 * acc + d) s) :
    (∃ k1 acc1 : Nat, k1 ≤ 4 ∧ acc1 < 16 ^ k1 ∧ Value.int IntKind.i64 v = Value.int IntKind.i64 (acc1 : Int) ∧ Value.int IntKind.i64 j = Value.int IntKind.i64 ((k1 + 2 : Nat) : Int) ∧ Hid (X = hexN acc1 (q.drop k1))) ∧
      6 - (intOf (Value.int IntKind.i64 j)).toNat < 6 - (intOf (Value.int IntKind.i64 ((k + 2 : Nat) : Int))).toNat := by
  have h4 : 16 ^ (k + 1) = 16 ^ k * 16 := Nat.pow_succ ..
  refine ⟨⟨k + 1, 16 * acc + d, by omega, by omega, by rw [hv]; congr 1, by rw [hj]; congr 1, ?_⟩, ?_⟩
  · rw [hs]; exact hx
  · simp [intOf]; omega
set_option maxRecDepth 100000 in
set_option maxHeartbeats 2000000 in
theorem refhex_calls (m : List UInt8) (w : World) (hl : m.length ≤ 1000000) :
    Calls Tryz.prog 85 #[.string ⟨m.toArray⟩] w fun e w' => e = .returned (.int .i64 (hexI (hexF m))) ∧ w = w' := by
  by_cases h6 : m.length < 6
  · have HE : Hid (hexF m = none) := by show _ = _; unfold hexF; rw [if_neg (by omega)]
    go_enter Tryz.func85, Tryz.ntmps85
    go_wp2
    go_ret
    exact ⟨hexI_no HE.out, rfl⟩
  · obtain ⟨a, b, c0, c1, c2, c3, t, rfl⟩ := six m (by omega)
    have HX := Lib.hid (hexF_six a b c0 c1 c2 c3 t)
    by_cases ha : a = 92
    · subst ha
      by_cases hb : b = 117
      · subst hb
        obtain ⟨r, hr⟩ : ∃ r : List UInt8, c0 :: c1 :: c2 :: c3 :: t = r := ⟨_, rfl⟩
        have hrl : 4 ≤ r.length := by rw [← hr]; simp
        rw [hr] at HX hl h6 ⊢
        clear hr
        have HE := Lib.hid (hexF_cons r hrl)
        obtain ⟨q, hq⟩ : ∃ q, r.take 4 = q := ⟨_, rfl⟩
        have hql : q.length = 4 := by rw [← hq, List.length_take]; omega
        have HQ := Lib.hid hq
        rw [hq] at HE
        clear hq HX
        go_enter Tryz.func85, Tryz.ntmps85
        go_wp2_with fail
        go_loop [3, 4] (fun n i => ∃ k acc : Nat, k ≤ 4 ∧ acc < 16 ^ k ∧ n = .int .i64 acc ∧ i = .int .i64 ((k + 2 : Nat) : Int) ∧ Hid (hexF (92 :: 117 :: r) = hexN acc (q.drop k))) (fun _ i => 6 - (intOf i).toNat)
        case atStart => exact ⟨0, 0, by omega, by decide, rfl, rfl, HE⟩
        case round =>
          obtain ⟨k, acc, hk, hacc, rfl, rfl, hv⟩ := hrel
          by_cases hp : k < 4
          · obtain ⟨c, hc⟩ : ∃ c, r[k] = c := ⟨_, rfl⟩
            obtain ⟨s, hs⟩ : ∃ s, q.drop (k + 1) = s := ⟨_, rfl⟩
            have hm : q.drop k = c :: s := by
              rw [List.drop_eq_getElem_cons (by omega), hs, ← hc]
              congr 1
              have := HQ.out
              subst this
              rw [List.getElem_take]
            have hcl := c.toNat_lt
            rw [hm] at hv
            have HS := Lib.hid hs
            clear hm hs
            have ha : acc < 4096 := by
              have : k = 0 ∨ k = 1 ∨ k = 2 ∨ k = 3 := by omega
              rcases this with rfl | rfl | rfl | rfl <;> omega
            rcases digV_kinds c with ⟨g1, g2, hd⟩ | ⟨g1, g2, hd⟩ | ⟨g1, g2, hd⟩ | ⟨hd, g⟩
            · have HE2 : Hid (hexF (92 :: 117 :: r) = hexN (16 * acc + (c.toNat - 48)) s) := hv.out.trans (hexN_some hd)
              clear hd
              go_wp2_with fail
              exact hex_end q k acc _ _ s _ _ hp hql hacc (by omega) (by omega) (by omega) HS.out HE2.out
            · have HE2 : Hid (hexF (92 :: 117 :: r) = hexN (16 * acc + (c.toNat - 87)) s) := hv.out.trans (hexN_some hd)
              clear hd
              go_wp2_with fail
              exact hex_end q k acc _ _ s _ _ hp hql hacc (by omega) (by omega) (by omega) HS.out HE2.out
            · have HE2 : Hid (hexF (92 :: 117 :: r) = hexN (16 * acc + (c.toNat - 55)) s) := hv.out.trans (hexN_some hd)
              clear hd
              go_wp2_with fail
              exact hex_end q k acc _ _ s _ _ hp hql hacc (by omega) (by omega) (by omega) HS.out HE2.out
            · have HE2 : Hid (hexF (92 :: 117 :: r) = none) := hv.out.trans (hexN_none hd)
              clear hd
              rcases g with g | ⟨g, g0⟩ | ⟨g, g0⟩ | g
              all_goals
                go_wp2
                go_ret
                exact ⟨hexI_no HE2.out, rfl⟩
          · have HE2 : Hid (hexF (92 :: 117 :: r) = some acc) := by
              show _ = _
              rw [hv.out, List.drop_of_length_le (by omega)]; rfl
            go_wp2
            go_ret
            exact ⟨hexI_yes HE2.out, rfl⟩
      · have n1 : ((b.toNat : Int) != 117) = true := by rw [bne_iff_ne]; intro h; exact hb (UInt8.toNat_inj.1 (by have : (117 : UInt8).toNat = 117 := rfl; omega))
        have HE : Hid (hexF (92 :: b :: c0 :: c1 :: c2 :: c3 :: t) = none) := HX.out.trans (if_neg fun h => hb h.2)
        go_enter Tryz.func85, Tryz.ntmps85
        go_wp2
        go_ret
        exact ⟨hexI_no HE.out, rfl⟩
    · have n1 : ((a.toNat : Int) != 92) = true := by rw [bne_iff_ne]; intro h; exact ha (UInt8.toNat_inj.1 (by have : (92 : UInt8).toNat = 92 := rfl; omega))
      have HE : Hid (hexF (a :: b :: c0 :: c1 :: c2 :: c3 :: t) = none) := HX.out.trans (if_neg fun h => ha h.1)
      go_enter Tryz.func85, Tryz.ntmps85
      go_wp2
      go_ret
      exact ⟨hexI_no HE.out, rfl⟩
theorem enc1 (c : Nat) (h : c < 128) : Lib.encodeRune (c : Int) = [UInt8.ofNat c] := by
  unfold Lib.encodeRune; rw [Lib.encodeRuneZ_one (by omega) (by omega)]; simp [Nat.toUInt8]
theorem enc2 (c : Nat) (h : 128 ≤ c) (h2 : c < 2048) : Lib.encodeRune (c : Int) = [UInt8.ofNat (192 + c / 64), UInt8.ofNat (128 + c % 64)] := by
  unfold Lib.encodeRune; rw [Lib.encodeRuneZ_two (by omega) (by omega)]
  simp only [List.map_cons, List.map_nil, Nat.toUInt8]
  rw [show (192 + (c : Int) / 64).toNat = 192 + c / 64 by omega, show (128 + (c : Int) % 64).toNat = 128 + c % 64 by omega]
theorem enc3 (c : Nat) (h : 2048 ≤ c) (h2 : c < 65536) (ho : OkR c) : Lib.encodeRune (c : Int) = [UInt8.ofNat (224 + c / 4096), UInt8.ofNat (128 + c / 64 % 64), UInt8.ofNat (128 + c % 64)] := by
  unfold OkR at ho
  unfold Lib.encodeRune; rw [Lib.encodeRuneZ_three (by omega)]
  simp only [List.map_cons, List.map_nil, Nat.toUInt8]
  rw [show (224 + (c : Int) / 4096).toNat = 224 + c / 4096 by omega, show (128 + (c : Int) / 64 % 64).toNat = 128 + c / 64 % 64 by omega, show (128 + (c : Int) % 64).toNat = 128 + c % 64 by omega]
theorem enc4 (c : Nat) (h : 65536 ≤ c) (ho : OkR c) : Lib.encodeRune (c : Int) = [UInt8.ofNat (240 + c / 262144), UInt8.ofNat (128 + c / 4096 % 64), UInt8.ofNat (128 + c / 64 % 64), UInt8.ofNat (128 + c % 64)] := by
  unfold OkR at ho
  unfold Lib.encodeRune; rw [Lib.encodeRuneZ_four (by omega) (by omega)]
  simp only [List.map_cons, List.map_nil, Nat.toUInt8]
  rw [show (240 + (c : Int) / 262144).toNat = 240 + c / 262144 by omega, show (128 + (c : Int) / 4096 % 64).toNat = 128 + c / 4096 % 64 by omega, show (128 + (c : Int) / 64 % 64).toNat = 128 + c / 64 % 64 by omega, show (128 + (c : Int) % 64).toNat = 128 + c % 64 by omega]
def StrPost (l : List UInt8) (w : World) (e : Ending) (w' : World) : Prop := e = .returned (.string ⟨l.toArray⟩) ∧ Below w.heap.size w w'
theorem StrPost.of {l m : List UInt8} {w w' : World} (h : l = m) (hb : Below w.heap.size w w') : StrPost l w (.returned (.string ⟨m.toArray⟩)) w' := by subst h; exact ⟨rfl, hb⟩
set_option maxRecDepth 100000 in
set_option maxHeartbeats 2000000 in
theorem refbytes_calls (c : Nat) (w : World) (ho : OkR c) :
    Calls Tryz.prog 68 #[.int .i64 (c : Int)] w (StrPost (Lib.encodeRune (c : Int)) w) := by
  have hle := ho.le
  by_cases h1 : c < 128
  · have hE := enc1 c h1
    obtain ⟨x0, hx0, hy0⟩ : ∃ x : UInt8, UInt8.ofNat (c) = x ∧ (c : Int) = (x.toNat : Int) := ⟨_, rfl, by simp; omega⟩
    rw [hx0] at hE
    have HE := Lib.hid hE
    have hst := run_str_rb (w.alloc (.cells #[.int .u8 ((c : Int))] 5)) (some ⟨w.heap.size, 0, none⟩) 1 1 [x0] (rb_const w _ _ (by simp only [hy0]; rfl) (0, 0)) rfl
    have t128 : decide ((c : Int) < 128) = true := decide_eq_true (by omega)
    have g : (c : Int) < 128 := by omega
    clear hle hx0 hy0 hE h1 ho
    go_enter Tryz.func68, Tryz.ntmps68
    go_wp2
    go_ret
    exact StrPost.of HE.out ((Below.refl _ _).alloc (Nat.le_refl _) _)
  · by_cases h2 : c < 2048
    · have hE := enc2 c (by omega) h2
      obtain ⟨x0, hx0, hy0⟩ : ∃ x : UInt8, UInt8.ofNat (192 + c / 64) = x ∧ 192 + (c : Int) / 64 = (x.toNat : Int) := ⟨_, rfl, by simp; omega⟩
      obtain ⟨x1, hx1, hy1⟩ : ∃ x : UInt8, UInt8.ofNat (128 + c % 64) = x ∧ 128 + (c : Int) % 64 = (x.toNat : Int) := ⟨_, rfl, by simp; omega⟩
      rw [hx0, hx1] at hE
      have HE := Lib.hid hE
      have hst := run_str_rb (w.alloc (.cells #[.int .u8 (192 + (c : Int) / 64), .int .u8 (128 + (c : Int) % 64)] 5)) (some ⟨w.heap.size, 0, none⟩) 2 2 [x0, x1] (rb_const w _ _ (by simp only [hy0, hy1]; rfl) (0, 0)) rfl
      have t128 : decide ((c : Int) < 128) = false := decide_eq_false (by omega)
      have t2048 : decide ((c : Int) < 2048) = true := decide_eq_true (by omega)
      have g : (c : Int) / 64 ≤ 31 := by omega
      clear hle hx0 hy0 hx1 hy1 hE h1 h2 ho
      go_enter Tryz.func68, Tryz.ntmps68
      go_wp2
      go_ret
      exact StrPost.of HE.out ((Below.refl _ _).alloc (Nat.le_refl _) _)
    · by_cases h3 : c < 65536
      · have hE := enc3 c (by omega) h3 ho
        obtain ⟨x0, hx0, hy0⟩ : ∃ x : UInt8, UInt8.ofNat (224 + c / 4096) = x ∧ 224 + (c : Int) / 4096 = (x.toNat : Int) := ⟨_, rfl, by simp; omega⟩
        obtain ⟨x1, hx1, hy1⟩ : ∃ x : UInt8, UInt8.ofNat (128 + c / 64 % 64) = x ∧ 128 + (c : Int) / 64 % 64 = (x.toNat : Int) := ⟨_, rfl, by simp; omega⟩
        obtain ⟨x2, hx2, hy2⟩ : ∃ x : UInt8, UInt8.ofNat (128 + c % 64) = x ∧ 128 + (c : Int) % 64 = (x.toNat : Int) := ⟨_, rfl, by simp; omega⟩
        rw [hx0, hx1, hx2] at hE
        have HE := Lib.hid hE
        have hst := run_str_rb (w.alloc (.cells #[.int .u8 (224 + (c : Int) / 4096), .int .u8 (128 + (c : Int) / 64 % 64), .int .u8 (128 + (c : Int) % 64)] 5)) (some ⟨w.heap.size, 0, none⟩) 3 3 [x0, x1, x2] (rb_const w _ _ (by simp only [hy0, hy1, hy2]; rfl) (0, 0)) rfl
        have t128 : decide ((c : Int) < 128) = false := decide_eq_false (by omega)
        have t2048 : decide ((c : Int) < 2048) = false := decide_eq_false (by omega)
        have t65536 : decide ((c : Int) < 65536) = true := decide_eq_true (by omega)
        have g : (c : Int) / 4096 ≤ 15 := by omega
        clear hle hx0 hy0 hx1 hy1 hx2 hy2 hE h1 h2 h3 ho
        go_enter Tryz.func68, Tryz.ntmps68
        go_wp2
        go_ret
        exact StrPost.of HE.out ((Below.refl _ _).alloc (Nat.le_refl _) _)
      · have hE := enc4 c (by omega) ho
        obtain ⟨x0, hx0, hy0⟩ : ∃ x : UInt8, UInt8.ofNat (240 + c / 262144) = x ∧ 240 + (c : Int) / 262144 = (x.toNat : Int) := ⟨_, rfl, by simp; omega⟩
        obtain ⟨x1, hx1, hy1⟩ : ∃ x : UInt8, UInt8.ofNat (128 + c / 4096 % 64) = x ∧ 128 + (c : Int) / 4096 % 64 = (x.toNat : Int) := ⟨_, rfl, by simp; omega⟩
        obtain ⟨x2, hx2, hy2⟩ : ∃ x : UInt8, UInt8.ofNat (128 + c / 64 % 64) = x ∧ 128 + (c : Int) / 64 % 64 = (x.toNat : Int) := ⟨_, rfl, by simp; omega⟩
        obtain ⟨x3, hx3, hy3⟩ : ∃ x : UInt8, UInt8.ofNat (128 + c % 64) = x ∧ 128 + (c : Int) % 64 = (x.toNat : Int) := ⟨_, rfl, by simp; omega⟩
        rw [hx0, hx1, hx2, hx3] at hE
        have HE := Lib.hid hE
        have hst := run_str_rb (w.alloc (.cells #[.int .u8 (240 + (c : Int) / 262144), .int .u8 (128 + (c : Int) / 4096 % 64), .int .u8 (128 + (c : Int) / 64 % 64), .int .u8 (128 + (c : Int) % 64)] 5)) (some ⟨w.heap.size, 0, none⟩) 4 4 [x0, x1, x2, x3] (rb_const w _ _ (by simp only [hy0, hy1, hy2, hy3]; rfl) (0, 0)) rfl
        have t128 : decide ((c : Int) < 128) = false := decide_eq_false (by omega)
        have t2048 : decide ((c : Int) < 2048) = false := decide_eq_false (by omega)
        have t65536 : decide ((c : Int) < 65536) = false := decide_eq_false (by omega)
        have g : (c : Int) / 262144 ≤ 4 := by omega
        clear hle hx0 hy0 hx1 hy1 hx2 hy2 hx3 hy3 hE h1 h2 h3 ho
        go_enter Tryz.func68, Tryz.ntmps68
        go_wp2
        go_ret
        exact StrPost.of HE.out ((Below.refl _ _).alloc (Nat.le_refl _) _)
end Go.Proofs.YtajkgcmopmpihaaGreatDoor
namespace Go.Proofs.YtajkgcmopmpihaaGreatDoor
open Go.ChangeShapes Go.WideShapes Go.ChangeAt Go.RowKit Go.IntWalk
set_option linter.unusedVariables false
def TwoI (p : Nat × Nat) (w : World) (e : Ending) (w' : World) : Prop := e = .returned (.tuple #[.int .i64 (p.1 : Nat), .int .i64 (p.2 : Nat)]) ∧ w = w'
theorem TwoI.of {p q : Nat × Nat} {w : World} (h : q = p) : TwoI q w (.returned (.tuple #[.int .i64 (p.1 : Nat), .int .i64 (p.2 : Nat)])) w := by subst h; exact ⟨rfl, rfl⟩
set_option maxRecDepth 100000 in
set_option maxHeartbeats 2000000 in
theorem rune_low (b : UInt8) (t : List UInt8) (w : World) (hl : (b :: t).length ≤ 1000000) (h : b.toNat < 128) :
    Calls Tryz.prog 66 #[.string ⟨(b :: t).toArray⟩] w (TwoI (runeF (b :: t)) w) := by
  have HE := Lib.hid (cls_1 b t h)
  go_enter Tryz.func66, Tryz.ntmps66
  go_wp2
  go_ret2
  exact TwoI.of HE.out
set_option maxRecDepth 100000 in
set_option maxHeartbeats 2000000 in
theorem rune_none (b : UInt8) (t : List UInt8) (w : World) (hl : (b :: t).length ≤ 1000000) (h : 128 ≤ b.toNat ∧ b.toNat < 192 ∨ 248 ≤ b.toNat) :
    Calls Tryz.prog 66 #[.string ⟨(b :: t).toArray⟩] w (TwoI (runeF (b :: t)) w) := by
  have HE := Lib.hid (cls_0 b t h)
  have hlt := b.toNat_lt
  go_enter Tryz.func66, Tryz.ntmps66
  go_wp2
  all_goals (go_ret2; exact TwoI.of (p := (0, 0)) HE.out)
set_option maxRecDepth 100000 in
set_option maxHeartbeats 4000000 in
theorem rune_2 (b : UInt8) (t : List UInt8) (w : World) (hl : (b :: t).length ≤ 1000000) (h : 192 ≤ b.toNat ∧ b.toNat < 224) :
    Calls Tryz.prog 66 #[.string ⟨(b :: t).toArray⟩] w (TwoI (runeF (b :: t)) w) := by
  have HC := Lib.hid (cls_2 b t h)
  have hc0 : b.toNat % 32 < 32 := by omega
  have hlt := b.toNat_lt
  by_cases hs : t.length + 1 < 2
  · have HE := Lib.hid (HC.out.short hs)
    go_enter Tryz.func66, Tryz.ntmps66
    go_wp2
    all_goals (go_ret2; exact TwoI.of (p := (0, 0)) HE.out)
  · go_enter Tryz.func66, Tryz.ntmps66
    go_wp2
    go_loop [4, 7] (fun c v => ∃ k : Nat, k ≤ 2 - 1 ∧ v = .int .i64 ((k + 1 : Nat) : Int) ∧ c = .int .i64 (accF (b.toNat % 32) (b :: t) k : Nat) ∧ Hid (∀ j, 1 ≤ j → j < k + 1 → contB ((b :: t).getD j 0).toNat = true)) (fun _ v => 2 - (intOf v).toNat)
    case atStart => exact ⟨0, by omega, rfl, by show Value.int _ _ = Value.int _ _; congr 1, fun j h1 h2 => by omega⟩
    case round =>
      obtain ⟨k, hk, rfl, rfl, hall⟩ := hrel
      obtain ⟨C, hC⟩ : ∃ C, accF (b.toNat % 32) (b :: t) k = C := ⟨_, rfl⟩
      have hCs := accF_small (b :: t) hc0 (k := k) (by omega)
      rw [hC] at hCs
      rw [hC]
      have HC2 := Lib.hid hC; clear hC
      by_cases hlt2 : k < 2 - 1
      · have hin : k + 1 < (b :: t).length := by rw [List.length_cons]; omega
        obtain ⟨d, hd⟩ : ∃ d, (b :: t)[k + 1] = d := ⟨_, rfl⟩
        have hdg : Hid ((b :: t).getD (k + 1) 0 = d) := by show _ = _; rw [List.getD_eq_getElem?_getD, List.getElem?_eq_getElem hin]; exact hd
        have hdl := d.toNat_lt
        by_cases hb : 128 ≤ d.toNat ∧ d.toNat < 192
        · go_wp2
          go_round
          case rel =>
            have e : accF (b.toNat % 32) (b :: t) (k + 1) = C * 64 + d.toNat % 64 := by
              show accF (b.toNat % 32) (b :: t) k * 64 + ((b :: t).getD (k + 1) 0).toNat % 64 = _
              rw [HC2.out, hdg.out]
            refine ⟨_, _, _, _, ⟨k + 1, by omega, by go_num, ?_, fun j h1 h2 => ?_⟩, rfl, rfl, rfl, rfl⟩
            · rw [e]; congr 1
            · rw [← List.getD_eq_getElem?_getD]
              by_cases h : j < k + 1
              · exact hall.out j h1 h
              · rw [show j = k + 1 from by omega, hdg.out]; simp [contB]; omega
          case measure => simp [intOf]; omega
        · have HE := Lib.hid (HC.out.bad (k + 1) (by omega) (by omega) (by rw [hdg.out]; simp only [contB]; exact decide_eq_false hb))
          go_wp2
          all_goals (go_ret2; exact TwoI.of (p := (0, 0)) HE.out)
      · have hk' : k = 2 - 1 := by omega
        cases hok : okC 128 C with
        | false =>
          have HE := Lib.hid (HC.out.out (by rw [← hk', HC2.out]; exact hok))
          simp only [okC, decide_eq_false_iff_not] at hok
          go_wp2
          all_goals first | (exfalso; omega) | (go_ret2; exact TwoI.of (p := (0, 0)) HE.out)
        | true =>
          have HE := Lib.hid (HC.out.good (by rw [List.length_cons]; omega) (by rw [← show k + 1 = 2 from by omega]; exact hall.out) (by rw [← hk', HC2.out]; exact hok))
          rw [← hk', HC2.out] at HE
          simp only [okC, decide_eq_true_eq] at hok
          go_wp2
          all_goals first | (exfalso; omega) | (go_ret2; exact TwoI.of (p := (C, 2)) HE.out)
set_option maxRecDepth 100000 in
set_option maxHeartbeats 4000000 in
theorem rune_3 (b : UInt8) (t : List UInt8) (w : World) (hl : (b :: t).length ≤ 1000000) (h : 224 ≤ b.toNat ∧ b.toNat < 240) :
    Calls Tryz.prog 66 #[.string ⟨(b :: t).toArray⟩] w (TwoI (runeF (b :: t)) w) := by
  have HC := Lib.hid (cls_3 b t h)
  have hc0 : b.toNat % 16 < 32 := by omega
  have hlt := b.toNat_lt
  by_cases hs : t.length + 1 < 3
  · have HE := Lib.hid (HC.out.short hs)
    go_enter Tryz.func66, Tryz.ntmps66
    go_wp2
    all_goals (go_ret2; exact TwoI.of (p := (0, 0)) HE.out)
  · go_enter Tryz.func66, Tryz.ntmps66
    go_wp2
    go_loop [4, 7] (fun c v => ∃ k : Nat, k ≤ 3 - 1 ∧ v = .int .i64 ((k + 1 : Nat) : Int) ∧ c = .int .i64 (accF (b.toNat % 16) (b :: t) k : Nat) ∧ Hid (∀ j, 1 ≤ j → j < k + 1 → contB ((b :: t).getD j 0).toNat = true)) (fun _ v => 3 - (intOf v).toNat)
    case atStart => exact ⟨0, by omega, rfl, by show Value.int _ _ = Value.int _ _; congr 1, fun j h1 h2 => by omega⟩
    case round =>
      obtain ⟨k, hk, rfl, rfl, hall⟩ := hrel
      obtain ⟨C, hC⟩ : ∃ C, accF (b.toNat % 16) (b :: t) k = C := ⟨_, rfl⟩
      have hCs := accF_small (b :: t) hc0 (k := k) (by omega)
      rw [hC] at hCs
      rw [hC]
      have HC2 := Lib.hid hC; clear hC
      by_cases hlt2 : k < 3 - 1
      · have hin : k + 1 < (b :: t).length := by rw [List.length_cons]; omega
        obtain ⟨d, hd⟩ : ∃ d, (b :: t)[k + 1] = d := ⟨_, rfl⟩
        have hdg : Hid ((b :: t).getD (k + 1) 0 = d) := by show _ = _; rw [List.getD_eq_getElem?_getD, List.getElem?_eq_getElem hin]; exact hd
        have hdl := d.toNat_lt
        by_cases hb : 128 ≤ d.toNat ∧ d.toNat < 192
        · go_wp2
          go_round
          case rel =>
            have e : accF (b.toNat % 16) (b :: t) (k + 1) = C * 64 + d.toNat % 64 := by
              show accF (b.toNat % 16) (b :: t) k * 64 + ((b :: t).getD (k + 1) 0).toNat % 64 = _
              rw [HC2.out, hdg.out]
            refine ⟨_, _, _, _, ⟨k + 1, by omega, by go_num, ?_, fun j h1 h2 => ?_⟩, rfl, rfl, rfl, rfl⟩
            · rw [e]; congr 1
            · rw [← List.getD_eq_getElem?_getD]
              by_cases h : j < k + 1
              · exact hall.out j h1 h
              · rw [show j = k + 1 from by omega, hdg.out]; simp [contB]; omega
          case measure => simp [intOf]; omega
        · have HE := Lib.hid (HC.out.bad (k + 1) (by omega) (by omega) (by rw [hdg.out]; simp only [contB]; exact decide_eq_false hb))
          go_wp2
          all_goals (go_ret2; exact TwoI.of (p := (0, 0)) HE.out)
      · have hk' : k = 3 - 1 := by omega
        cases hok : okC 2048 C with
        | false =>
          have HE := Lib.hid (HC.out.out (by rw [← hk', HC2.out]; exact hok))
          simp only [okC, decide_eq_false_iff_not] at hok
          go_wp2
          all_goals first | (exfalso; omega) | (go_ret2; exact TwoI.of (p := (0, 0)) HE.out)
        | true =>
          have HE := Lib.hid (HC.out.good (by rw [List.length_cons]; omega) (by rw [← show k + 1 = 3 from by omega]; exact hall.out) (by rw [← hk', HC2.out]; exact hok))
          rw [← hk', HC2.out] at HE
          simp only [okC, decide_eq_true_eq] at hok
          go_wp2
          all_goals first | (exfalso; omega) | (go_ret2; exact TwoI.of (p := (C, 3)) HE.out)
set_option maxRecDepth 100000 in
set_option maxHeartbeats 4000000 in
theorem rune_4 (b : UInt8) (t : List UInt8) (w : World) (hl : (b :: t).length ≤ 1000000) (h : 240 ≤ b.toNat ∧ b.toNat < 248) :
    Calls Tryz.prog 66 #[.string ⟨(b :: t).toArray⟩] w (TwoI (runeF (b :: t)) w) := by
  have HC := Lib.hid (cls_4 b t h)
  have hc0 : b.toNat % 8 < 32 := by omega
  have hlt := b.toNat_lt
  by_cases hs : t.length + 1 < 4
  · have HE := Lib.hid (HC.out.short hs)
    go_enter Tryz.func66, Tryz.ntmps66
    go_wp2
    all_goals (go_ret2; exact TwoI.of (p := (0, 0)) HE.out)
  · go_enter Tryz.func66, Tryz.ntmps66
    go_wp2
    go_loop [4, 7] (fun c v => ∃ k : Nat, k ≤ 4 - 1 ∧ v = .int .i64 ((k + 1 : Nat) : Int) ∧ c = .int .i64 (accF (b.toNat % 8) (b :: t) k : Nat) ∧ Hid (∀ j, 1 ≤ j → j < k + 1 → contB ((b :: t).getD j 0).toNat = true)) (fun _ v => 4 - (intOf v).toNat)
    case atStart => exact ⟨0, by omega, rfl, by show Value.int _ _ = Value.int _ _; congr 1, fun j h1 h2 => by omega⟩
    case round =>
      obtain ⟨k, hk, rfl, rfl, hall⟩ := hrel
      obtain ⟨C, hC⟩ : ∃ C, accF (b.toNat % 8) (b :: t) k = C := ⟨_, rfl⟩
      have hCs := accF_small (b :: t) hc0 (k := k) (by omega)
      rw [hC] at hCs
      rw [hC]
      have HC2 := Lib.hid hC; clear hC
      by_cases hlt2 : k < 4 - 1
      · have hin : k + 1 < (b :: t).length := by rw [List.length_cons]; omega
        obtain ⟨d, hd⟩ : ∃ d, (b :: t)[k + 1] = d := ⟨_, rfl⟩
        have hdg : Hid ((b :: t).getD (k + 1) 0 = d) := by show _ = _; rw [List.getD_eq_getElem?_getD, List.getElem?_eq_getElem hin]; exact hd
        have hdl := d.toNat_lt
        by_cases hb : 128 ≤ d.toNat ∧ d.toNat < 192
        · go_wp2
          go_round
          case rel =>
            have e : accF (b.toNat % 8) (b :: t) (k + 1) = C * 64 + d.toNat % 64 := by
              show accF (b.toNat % 8) (b :: t) k * 64 + ((b :: t).getD (k + 1) 0).toNat % 64 = _
              rw [HC2.out, hdg.out]
            refine ⟨_, _, _, _, ⟨k + 1, by omega, by go_num, ?_, fun j h1 h2 => ?_⟩, rfl, rfl, rfl, rfl⟩
            · rw [e]; congr 1
            · rw [← List.getD_eq_getElem?_getD]
              by_cases h : j < k + 1
              · exact hall.out j h1 h
              · rw [show j = k + 1 from by omega, hdg.out]; simp [contB]; omega
          case measure => simp [intOf]; omega
        · have HE := Lib.hid (HC.out.bad (k + 1) (by omega) (by omega) (by rw [hdg.out]; simp only [contB]; exact decide_eq_false hb))
          go_wp2
          all_goals (go_ret2; exact TwoI.of (p := (0, 0)) HE.out)
      · have hk' : k = 4 - 1 := by omega
        cases hok : okC 65536 C with
        | false =>
          have HE := Lib.hid (HC.out.out (by rw [← hk', HC2.out]; exact hok))
          simp only [okC, decide_eq_false_iff_not] at hok
          go_wp2
          all_goals first | (exfalso; omega) | (go_ret2; exact TwoI.of (p := (0, 0)) HE.out)
        | true =>
          have HE := Lib.hid (HC.out.good (by rw [List.length_cons]; omega) (by rw [← show k + 1 = 4 from by omega]; exact hall.out) (by rw [← hk', HC2.out]; exact hok))
          rw [← hk', HC2.out] at HE
          simp only [okC, decide_eq_true_eq] at hok
          go_wp2
          all_goals first | (exfalso; omega) | (go_ret2; exact TwoI.of (p := (C, 4)) HE.out)
set_option maxRecDepth 100000 in
set_option maxHeartbeats 2000000 in
theorem rune_nil (w : World) :
    Calls Tryz.prog 66 #[.string ⟨([] : List UInt8).toArray⟩] w (TwoI (runeF []) w) := by
  go_enter Tryz.func66, Tryz.ntmps66
  go_wp2
  go_ret2
  exact TwoI.of (p := (0, 0)) runeF_nil
theorem rune_calls (l : List UInt8) (w : World) (hl : l.length ≤ 1000000) :
    Calls Tryz.prog 66 #[.string ⟨l.toArray⟩] w (TwoI (runeF l) w) := by
  cases l with
  | nil => exact rune_nil w
  | cons b t =>
    have hlt := b.toNat_lt
    by_cases h1 : b.toNat < 128
    · exact rune_low b t w hl h1
    · by_cases h2 : b.toNat < 192
      · exact rune_none b t w hl (.inl ⟨by omega, h2⟩)
      · by_cases h3 : b.toNat < 224
        · exact rune_2 b t w hl ⟨by omega, h3⟩
        · by_cases h4 : b.toNat < 240
          · exact rune_3 b t w hl ⟨by omega, h4⟩
          · by_cases h5 : b.toNat < 248
            · exact rune_4 b t w hl ⟨by omega, h5⟩
            · exact rune_none b t w hl (.inr (by omega))
end Go.Proofs.YtajkgcmopmpihaaGreatDoor
