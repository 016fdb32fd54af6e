/- Layer 7: the document's public key, walked. -/
import Derived.Test.YtkfdclnaaphdgaaDoorSgD
namespace Go.Proofs.YtkfdclnaaphdgaaDoor
open Go.ChangeShapes Go.WideShapes Go.ChangeAt Go.RowKit Go.IntWalk
set_option linter.unusedVariables false

theorem secB_len {dg : List UInt8} (h : dg.length = 64) : (secB dg).length = 32 := by simp [secB, h]
/-- A seed's point. -/
def pubP (bs : List UInt8) : Pt := Pt.times (leN (secB (Dh.digest bs))) baseP
set_option maxRecDepth 100000 in
set_option maxHeartbeats 400000 in
theorem refPublic_calls (bs : List UInt8) (hb : bs.length = 32) (w : World) :
    Calls Tryd.prog 10 #[.string ⟨bs.toArray⟩] w fun e w' => e = .returned (.string ⟨(encL (pubP bs)).toArray⟩) ∧ Below w.heap.size w w' := by
  have hsl := secB_len (Dh.digest_len bs)
  have HPB : Hid (Pt.times (leN (secB (Dh.digest bs))) baseP = pubP bs) := Lib.hid rfl
  have HC := Lib.hid (refSecret_calls bs hb)
  clear hb
  obtain ⟨sb, hsb⟩ : ∃ s, secB (Dh.digest bs) = s := ⟨_, rfl⟩
  obtain ⟨pb, hpb⟩ : ∃ s, (Dh.digest bs).drop 32 = s := ⟨_, rfl⟩
  rw [hsb] at HC HPB hsl
  rw [hpb] at HC
  have HSL := Lib.hid hsl
  clear hsb hpb hsl
  go_enter Tryd.func10, Tryd.ntmps10
  go_wp2_with fail
  refine (HC.out _).mono ?_
  rintro e W1 ⟨rfl, b1⟩
  have B1 := Lib.hid b1
  clear b1
  go_wp2_with fail
  refine (refBaseP _).mono ?_
  rintro e W2 ⟨_, rfl, ⟨c2, rfl, h2⟩, b2⟩
  have B2 := Lib.hid (B1.out.then_ b2)
  clear b2 B1
  go_wp2_with fail
  refine (refMulP h2 sb HSL.out _).mono ?_
  rintro e W3 ⟨_, rfl, ⟨c3, rfl, h3⟩, b3⟩
  rw [HPB.out] at h3
  have B3 := Lib.hid (B2.out.then_ b3)
  clear b3 B2 h2
  go_wp2_with fail
  refine (refBytesP h3 _).mono ?_
  rintro e W4 ⟨rfl, b4⟩
  have B4 := Lib.hid (B3.out.then_ b4)
  clear b4 B3 h3
  go_wp2_with fail
  go_ret
  exact ⟨rfl, B4.out⟩
end Go.Proofs.YtkfdclnaaphdgaaDoor
