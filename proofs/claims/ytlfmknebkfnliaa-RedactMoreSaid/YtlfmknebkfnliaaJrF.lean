/- JSON: the document's Find, walked. -/
import Derived.Test.YtlfmknebkfnliaaJgC
namespace Go.Proofs.Ytlfmknebkfnliaa
open Go.ChangeShapes Go.WideShapes Go.ChangeAt Go.RowKit Go.IntWalk
set_option linter.unusedVariables false

section
variable {w : World} {g : Nat} {T : TypeId} {a0 a1 a2 a3 a4 a5 x0 x1 x2 x3 x4 x5 : Value}
/-- Six cells stored. -/
def set6 (w : World) (g : Nat) (x0 x1 x2 x3 x4 x5 : Value) : World := (((((w.setCell ⟨g, 0, none⟩ x0).setCell ⟨g, 1, none⟩ x1).setCell ⟨g, 2, none⟩ x2).setCell ⟨g, 3, none⟩ x3).setCell ⟨g, 4, none⟩ x4).setCell ⟨g, 5, none⟩ x5
theorem blk6 (h : Blk w g T [a0, a1, a2, a3, a4, a5]) : Blk (set6 w g x0 x1 x2 x3 x4 x5) g T [x0, x1, x2, x3, x4, x5] :=
  (((((h.set_ 0 x0).set_ 1 x1).set_ 2 x2).set_ 3 x3).set_ 4 x4).set_ 5 x5
theorem below6 {B : Nat} {a : World} (h : Below B a w) (hg : B ≤ g) : Below B a (set6 w g x0 x1 x2 x3 x4 x5) :=
  (((((h.setCell hg _).setCell hg _).setCell hg _).setCell hg _).setCell hg _).setCell hg _
theorem cells6 (h : Blk w g T [a0, a1, a2, a3, a4, a5]) : w.cell? ⟨g, 0, none⟩ = some a0 ∧ w.cell? ⟨g, 1, none⟩ = some a1 ∧ w.cell? ⟨g, 2, none⟩ = some a2 ∧ w.cell? ⟨g, 3, none⟩ = some a3 ∧ w.cell? ⟨g, 4, none⟩ = some a4 ∧ w.cell? ⟨g, 5, none⟩ = some a5 ∧
    w.frozen? ⟨g, 0, none⟩ = false ∧ w.frozen? ⟨g, 1, none⟩ = false ∧ w.frozen? ⟨g, 2, none⟩ = false ∧ w.frozen? ⟨g, 3, none⟩ = false ∧ w.frozen? ⟨g, 4, none⟩ = false ∧ w.frozen? ⟨g, 5, none⟩ = false :=
  ⟨h.cell rfl, h.cell rfl, h.cell rfl, h.cell rfl, h.cell rfl, h.cell rfl, h.frozen _, h.frozen _, h.frozen _, h.frozen _, h.frozen _, h.frozen _⟩
end
theorem findV_step (t : JT) (i : Nat) (key : List UInt8) (h : i < t.ext) : (t.fall i).findV key = if (t.fall i).key = key then some (t.fall i).val else (t.fall (i + 1)).findV key := by
  conv => lhs; rw [t.fall_of_lt i h]
  rfl
theorem findV_end (t : JT) (key : List UInt8) : (t.fall t.ext).findV key = none := by rw [JT.fall_all t _ (Nat.le_refl _)]; rfl
/-- A value whose parts lie below base. -/
def VOkB (base : Nat) (w : World) (v : Jv) (A B : Option Addr) (nl cl nm cm : Nat) : Prop := Room nl cl v.l.ext ∧ Room nm cm v.m.ext ∧ JSl (· < base) w false A v.l ∧ JSl (· < base) w true B v.m ∧ Fit v.kd v.n v.s
theorem VOkB.blw {base : Nat} {w w' : World} {v : Jv} {A B : Option Addr} {nl cl nm cm : Nat} (h : VOkB base w v A B nl cl nm cm) (b : Below base w w') : VOkB base w' v A B nl cl nm cm := ⟨h.1, h.2.1, h.2.2.1.blw b, h.2.2.2.1.blw b, h.2.2.2.2⟩
theorem VOkB.ok {base : Nat} {w : World} {v : Jv} {A B : Option Addr} {nl cl nm cm : Nat} (h : VOkB base w v A B nl cl nm cm) (hb : base ≤ w.heap.size) : VOk w v A B nl cl nm cm :=
  ⟨h.1, h.2.1, h.2.2.1.stay (fun _ _ _ => rfl) (fun x hx => Nat.lt_of_lt_of_le hx hb), h.2.2.2.1.stay (fun _ _ _ => rfl) (fun x hx => Nat.lt_of_lt_of_le hx hb), h.2.2.2.2⟩
theorem nullB_ok (base : Nat) (w : World) : VOkB base w nullV none none 0 0 0 0 := ⟨⟨rfl, Nat.le_refl _, by decide⟩, ⟨rfl, Nat.le_refl _, by decide⟩, .inl rfl, .inl rfl, by unfold Fit nullV; decide⟩
/-- What Find answers. -/
def FRes (base : Nat) (o : Option Jv) (w : World) (e : Ending) (w' : World) : Prop :=
  (∃ (A B : Option Addr) (nl cl nm cm : Nat), e = .returned (.tuple #[.agg #[.int .i64 (o.getD nullV).kd, .bool (o.getD nullV).is, .int .i64 (o.getD nullV).n, .string ⟨(o.getD nullV).s.toArray⟩, .slice A nl cl, .slice B nm cm], .bool o.isSome]) ∧ VOkB base w' (o.getD nullV) A B nl cl nm cm) ∧ Below w.heap.size w w'
theorem res_cell2 {fn : Func} {p q : Tmp} {ty : TypeId} (h : fn.results = #[.cell p ty, .tmp q]) (tmps : Array Value) (a : Addr) (v u : Value) (W : World) (hp : tmps.getD p undef = .pointer (some a)) (hq : tmps.getD q undef = u) (hld : (loadVar ty a).run Try.prog W = .ok v W) : (results fn tmps).run Try.prog W = .ok (.tuple #[v, u]) W := by
  simp only [Array.getD_eq_getD_getElem?] at hp hq
  subst hq
  simp [results, h, hp, asAddr, hld]
set_option maxHeartbeats 4000000 in
theorem reffind_calls (base : Nat) (t : JT) (A : Option Addr) (n c : Nat) (key : List UInt8) (w : World) (hn : Room n c t.ext) (hBs : base ≤ w.heap.size) (hs : JSl (· < base) w true A t) :
    Calls Try.prog 19 #[.slice A n c, .string ⟨key.toArray⟩] w (FRes base (t.findV key) w) := by
  obtain ⟨hn, hnc, hc47⟩ := hn
  obtain ⟨R, hR⟩ : ∃ R, t.findV key = R := ⟨_, rfl⟩
  have HS := Lib.hid hs
  have HNX := Lib.hid hn
  have HR0 := Lib.hid (show R = (t.fall 0).findV key by rw [JT.fall_zero, hR])
  rw [hR]
  clear hs hn hR
  go_enter Try.func19, Try.ntmps19
  go_wp2_with fail
  have hz := Blk.new w [.int .i64 0, .bool false, .int .i64 0, .string ⟨#[]⟩, .slice none 0 0, .slice none 0 0] 25
  have HB0 := Lib.hid ((Below.refl w.heap.size w).alloc (Nat.le_refl _) (.cells #[.int .i64 0, .bool false, .int .i64 0, .string ⟨#[]⟩, .slice none 0 0, .slice none 0 0] 25))
  go_loopw [10] (fun i wr => ∃ k : Nat, k ≤ n ∧ i = .int .i64 (k : Int) ∧ Hid (Below w.heap.size w wr) ∧ Hid (Blk wr w.heap.size 25 [.int .i64 0, .bool false, .int .i64 0, .string ⟨#[]⟩, .slice none 0 0, .slice none 0 0]) ∧ Hid (R = (t.fall k).findV key)) (fun i _ => n - (intOf i).toNat)
  case atStart => exact ⟨0, by omega, rfl, HB0, Lib.hid hz, HR0⟩
  case round =>
    obtain ⟨k, hk, rfl, hB, hZ, hF⟩ := hrel
    clear hz
    by_cases hlt : k < n
    · have hkx : k < t.ext := by rw [← HNX.out]; exact hlt
      obtain ⟨eb, eo, eA, enl, ecl, eB, enm, ecm, rfl, eP, ebl, eK, eKl, f0, f1, f2, f3, f4, f5, r1, r2, s1, s2, hf⟩ := (HS.out.blw (hB.out.mono hBs)).mb (i := k) _ hkx
      obtain ⟨eu, hev⟩ : ∃ eu, (t.fall k).val = eu := ⟨_, rfl⟩
      obtain ⟨ek, hek⟩ : ∃ ek, (t.fall k).key = ek := ⟨_, rfl⟩
      have HF2 := Lib.hid (show R = if ek = key then some eu else (t.fall (k + 1)).findV key by rw [hF.out, findV_step t k key hkx, hek, hev])
      rw [hev] at f0 f1 f2 f3 r1 r2 s1 s2 hf
      rw [hek] at eK
      have HV := Lib.hid (And.intro r1 (And.intro r2 (And.intro s1 (And.intro s2 hf))))
      have hz2 := hZ.out.alloc (.cells #[.string ⟨ek.toArray⟩, .int .i64 eu.kd, .bool eu.is, .int .i64 eu.n, .string ⟨eu.s.toArray⟩, .slice eA enl ecl, .slice eB enm ecm] 36)
      have HZ2 := Lib.hid hz2
      have HB2 := Lib.hid (hB.out.alloc hB.out.size (.cells #[.string ⟨ek.toArray⟩, .int .i64 eu.kd, .bool eu.is, .int .i64 eu.n, .string ⟨eu.s.toArray⟩, .slice eA enl ecl, .slice eB enm ecm] 36))
      clear eP eKl r1 r2 s1 s2 hf hev hek hkx
      by_cases hkk : ek = key
      · have ht : (ek == key) = true := by simpa using hkk
        have HF3 := Lib.hid (show R = some eu by rw [HF2.out, if_pos hkk])
        obtain ⟨c0, c1, c2, c3, c4, c5, g0, g1, g2, g3, g4, g5⟩ := cells6 hz2
        clear hkk hz2
        go_wp2_with fail
        have HB6 := Lib.hid (show Below w.heap.size wr (wr.alloc (.cells #[.string ⟨ek.toArray⟩, .int .i64 eu.kd, .bool eu.is, .int .i64 eu.n, .string ⟨eu.s.toArray⟩, .slice eA enl ecl, .slice eB enm ecm] 36)) from (Below.refl _ _).alloc hB.out.size _)
        rw [HF3.out]
        exact bodyPost_ret (res_cell2 rfl _ ⟨w.heap.size, 0, none⟩ _ (.bool true) _ rfl rfl (Blk.load (blk6 HZ2.out) _ Try.underlying25 rfl size_val)) rfl ⟨⟨eA, eB, enl, ecl, enm, ecm, rfl, VOkB.blw ⟨HV.out.1, HV.out.2.1, HV.out.2.2.1, HV.out.2.2.2.1, HV.out.2.2.2.2⟩ ((below6 HB6.out (Nat.le_refl _)).mono hBs)⟩, below6 HB2.out (Nat.le_refl _)⟩
      · have ht : (ek == key) = false := by simpa using hkk
        have HF3 := Lib.hid (show R = (t.fall (k + 1)).findV key by rw [HF2.out, if_neg hkk])
        clear hkk hz2
        go_wp2_with fail
        go_roundw
        case rel => exact ⟨k + 1, by omega, by go_num, HB2, HZ2, HF3⟩
        case measure => simp [intOf]; omega
    · obtain rfl : k = n := by omega
      have HF3 := Lib.hid (show R = none by rw [hF.out, HNX.out, findV_end])
      obtain ⟨c0, c1, c2, c3, c4, c5, g0, g1, g2, g3, g4, g5⟩ := cells6 hZ.out
      go_wp2_with fail
      rw [HF3.out]
      exact bodyPost_ret (res_cell2 rfl _ ⟨w.heap.size, 0, none⟩ _ (.bool false) _ rfl rfl (Blk.load (blk6 hZ.out) _ Try.underlying25 rfl size_val)) rfl ⟨⟨none, none, 0, 0, 0, 0, rfl, nullB_ok _ _⟩, below6 hB.out (Nat.le_refl _)⟩
end Go.Proofs.Ytlfmknebkfnliaa
