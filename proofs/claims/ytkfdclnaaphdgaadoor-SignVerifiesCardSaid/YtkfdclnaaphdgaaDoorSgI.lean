/- Layer 7: the document's Sign and Verify, walked. -/
import Derived.Test.YtkfdclnaaphdgaaDoorSgG
namespace Go.Proofs.YtkfdclnaaphdgaaDoor
open Go.ChangeShapes Go.WideShapes Go.ChangeAt Go.RowKit Go.IntWalk
set_option linter.unusedVariables false

theorem cat2 (x y : List UInt8) : ((⟨x.toArray⟩ : ByteArray) ++ ⟨y.toArray⟩) = ⟨(x ++ y).toArray⟩ := by
  apply ByteArray.ext
  simp
theorem refNumber7 (bs : List UInt8) (h : bs.length < 2 ^ 30) : Hid (∀ w, Calls Tryd.prog 26 #[.string ⟨bs.toArray⟩] w fun e w' => e = .returned (.string ⟨(hR bs).toArray⟩) ∧ Below w.heap.size w w') := Lib.hid (refNumber_calls bs h)
set_option maxRecDepth 100000 in
set_option maxHeartbeats 4000000 in
theorem refSign_calls (seed : List UInt8) (hs : seed.length = 32) (msg : List UInt8) (hm : msg.length < 2 ^ 29) (w : World) :
    Calls Tryd.prog 12 #[.string ⟨seed.toArray⟩, .string ⟨msg.toArray⟩] w fun e w' => e = .returned (.string ⟨(sigL seed msg).toArray⟩) ∧ Below w.heap.size w w' := by
  have HSC : Hid (∀ w, Calls Tryd.prog 20 #[.string ⟨seed.toArray⟩] w fun e w' => e = .returned (.tuple #[.string ⟨(secL seed).toArray⟩, .string ⟨(preL seed).toArray⟩]) ∧ Below w.heap.size w w') := Lib.hid (refSecret_calls seed hs)
  have HPU : Hid (∀ w, Calls Tryd.prog 10 #[.string ⟨seed.toArray⟩] w fun e w' => e = .returned (.string ⟨(pubL seed).toArray⟩) ∧ Below w.heap.size w w') := Lib.hid (refPublic_calls seed hs)
  have lp := preL_len seed
  have lk : (pubL seed).length = 32 := enc_len _
  have lf := firstL_len seed msg
  have lz := secondL_len seed msg
  have HN1 := refNumber7 (preL seed ++ msg) (by rw [List.length_append]; omega)
  have HN2 := refNumber7 (firstL seed msg ++ (pubL seed ++ msg)) (by rw [List.length_append, List.length_append]; omega)
  have HMB : Hid (∀ c W, RL c baseP → Calls Tryd.prog 22 #[.agg c.toArray, .string ⟨(hR (preL seed ++ msg)).toArray⟩] W (RPPost (Pt.times (leN (hR (preL seed ++ msg))) baseP) W)) := Lib.hid (fun c W h => refMulP h _ (hR_len _) W)
  have HBY : Hid (∀ c W, RL c (Pt.times (leN (hR (preL seed ++ msg))) baseP) → Calls Tryd.prog 21 #[.agg c.toArray] W fun e w' => e = .returned (.string ⟨(firstL seed msg).toArray⟩) ∧ Below W.heap.size W w') := Lib.hid (fun c W h => refBytesP h W)
  have HMA : Hid (∀ W, Calls Tryd.prog 27 #[.string ⟨(hR (firstL seed msg ++ (pubL seed ++ msg))).toArray⟩, .string ⟨(secL seed).toArray⟩, .string ⟨(hR (preL seed ++ msg)).toArray⟩] W fun e w' => e = .returned (.string ⟨(secondL seed msg).toArray⟩) ∧ Below W.heap.size W w') :=
    Lib.hid (fun W => Sc.refMul_calls _ _ _ (hR_len _) (secL_len _) (Nat.le_of_eq (hR_len _)) W)
  have HE1 : Hid ((⟨(preL seed).toArray⟩ : ByteArray) ++ ⟨msg.toArray⟩ = ⟨(preL seed ++ msg).toArray⟩) := Lib.hid (cat2 _ _)
  have HE2 : Hid ((⟨(firstL seed msg).toArray⟩ : ByteArray) ++ ⟨(pubL seed).toArray⟩ ++ ⟨msg.toArray⟩ = ⟨(firstL seed msg ++ (pubL seed ++ msg)).toArray⟩) := Lib.hid (by rw [cat2, cat2, List.append_assoc])
  have HE3 : Hid ((⟨(firstL seed msg).toArray⟩ : ByteArray) ++ ⟨(secondL seed msg).toArray⟩ = ⟨(sigL seed msg).toArray⟩) := Lib.hid (by rw [cat2]; rfl)
  have q1 : (preL seed).length ≤ 32 := by omega
  have q2 : (pubL seed).length ≤ 32 := by omega
  have q3 : (firstL seed msg).length ≤ 32 := by omega
  have q4 : (secondL seed msg).length ≤ 32 := by omega
  have q5 : msg.length ≤ 536870912 := by omega
  clear lp lk lf lz hs hm
  go_enter Tryd.func12, Tryd.ntmps12
  go_wp2_with fail
  refine (HSC.out _).mono ?_
  rintro e W1 ⟨rfl, b1⟩
  have B1 := Lib.hid b1
  clear b1
  go_wp2_with fail
  rw [HE1.out]
  refine (HN1.out _).mono ?_
  rintro e W2 ⟨rfl, b2⟩
  have B2 := Lib.hid (B1.out.then_ b2)
  clear b2 B1
  go_wp2_with fail
  refine (refBaseP _).mono ?_
  rintro e W3 ⟨_, rfl, ⟨c3, rfl, h3⟩, b3⟩
  have B3 := Lib.hid (B2.out.then_ b3)
  clear b3 B2
  go_wp2_with fail
  refine (HMB.out _ _ h3).mono ?_
  rintro e W4 ⟨_, rfl, ⟨c4, rfl, h4⟩, b4⟩
  have B4 := Lib.hid (B3.out.then_ b4)
  clear b4 B3 h3
  go_wp2_with fail
  refine (HBY.out _ _ h4).mono ?_
  rintro e W5 ⟨rfl, b5⟩
  have B5 := Lib.hid (B4.out.then_ b5)
  clear b5 B4 h4
  go_wp2_with fail
  refine (HPU.out _).mono ?_
  rintro e W6 ⟨rfl, b6⟩
  have B6 := Lib.hid (B5.out.then_ b6)
  clear b6 B5
  go_wp2_with fail
  rw [HE2.out]
  refine (HN2.out _).mono ?_
  rintro e W7 ⟨rfl, b7⟩
  have B7 := Lib.hid (B6.out.then_ b7)
  clear b7 B6
  go_wp2_with fail
  refine (HMA.out _).mono ?_
  rintro e W8 ⟨rfl, b8⟩
  have B8 := Lib.hid (B7.out.then_ b8)
  clear b8 B7
  go_wp2_with fail
  rw [HE3.out]
  go_ret
  exact ⟨rfl, B8.out⟩
end Go.Proofs.YtkfdclnaaphdgaaDoor
