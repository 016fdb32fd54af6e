/- Layer 7: the document's keys, walked. -/
import Derived.Test.YtkfdclnaaphdgaaDoorSgC
import Derived.Lib.LaidTab
namespace Go.Proofs.YtkfdclnaaphdgaaDoor
open Go.ChangeShapes Go.WideShapes Go.ChangeAt Go.RowKit Go.IntWalk
set_option linter.unusedVariables false

/-- A seed's number, out of its digest. -/
def secB (dg : List UInt8) : List UInt8 := UInt8.ofNat ((dg.getD 0 0).toNat - (dg.getD 0 0).toNat % 8) :: ((dg.take 31).tail ++ [UInt8.ofNat ((dg.getD 31 0).toNat % 64 + 64)])
theorem ofNat_val (n : Nat) (h : n < 256) : (UInt8.ofNat n).toNat = n := by simp; omega
theorem sec_lo (n : Nat) (h : n < 256) : IntKind.u8.wrap ((n : Int) - ((n % 8 : Nat) : Int)) = ((UInt8.ofNat (n - n % 8)).toNat : Int) := by
  rw [ofNat_val _ (by omega), IntKind.wrap_u8]; omega
theorem sec_hi (n : Nat) : IntKind.u8.wrap (((n % 64 : Nat) : Int) + 64) = ((UInt8.ofNat (n % 64 + 64)).toNat : Int) := by
  rw [ofNat_val _ (by omega), IntKind.wrap_u8]; omega
theorem tmodN (n m : Nat) (h : 0 < m) : Int.tmod (n : Int) (m : Int) = ((n % m : Nat) : Int) := by rw [Int.tmod_eq_emod_of_nonneg (by omega)]; simp
theorem cut1 (c : UInt8) (W : World) (g : Nat) (h : W.cell? ⟨g, 0, none⟩ = some (.int .u8 (c.toNat : Int))) : (convert 25 9 (.slice (some ⟨g, 0, none⟩) 1 1)).run Tryd.prog W = .ok (.string ⟨#[c]⟩) W :=
  run_str_rb W _ 1 1 [c] (fun k hk => by
    have hk0 : k = 0 := by simpa using hk
    subst hk0
    refine ⟨g, 0, rfl, ?_, by simpa using h⟩
    exact World.block_lt_of_cell? W _ h) (Lib.hid rfl)
theorem app3 (x y : UInt8) (l : List UInt8) : ((⟨#[x]⟩ : ByteArray) ++ ⟨l.toArray⟩ ++ ⟨#[y]⟩) = ⟨(x :: (l ++ [y])).toArray⟩ := by
  apply ByteArray.ext
  simp
set_option maxRecDepth 100000 in
set_option maxHeartbeats 800000 in
theorem refSecret_calls (bs : List UInt8) (hb : bs.length = 32) (w : World) :
    Calls Tryd.prog 20 #[.string ⟨bs.toArray⟩] w fun e w' => e = .returned (.tuple #[.string ⟨(secB (Dh.digest bs)).toArray⟩, .string ⟨((Dh.digest bs).drop 32).toArray⟩]) ∧ Below w.heap.size w w' := by
  have HB := Lib.hid hb
  clear hb
  obtain ⟨cap, W1, hcv, hb1, hbc, _⟩ := bytes_of w bs
  go_enter Tryd.func20, Tryd.ntmps20
  go_wp2_with fail
  refine (Dh.refOf_calls bs (by rw [HB.out]; decide) _ bs.length cap (Lib.hid rfl) W1 hbc.rb).mono ?_
  rintro e W2 ⟨rfl, hb2⟩
  have hw2 := hb1.then_ hb2
  have hdl := Dh.digest_len bs
  obtain ⟨dg, hdg⟩ : ∃ d, Dh.digest bs = d := ⟨_, rfl⟩
  have HDG := Lib.hid hdg
  rw [hdg] at hdl ⊢
  clear hb1 hb2 hbc hcv hdg
  have hsz : (⟨dg.toArray⟩ : ByteArray).size = dg.length := rfl
  have i0 : 0 < dg.length := by omega
  have i31 : 31 < dg.length := by omega
  obtain ⟨x, hx⟩ : ∃ x, dg[0] = x := ⟨_, rfl⟩
  obtain ⟨y, hy⟩ : ∃ y, dg[31] = y := ⟨_, rfl⟩
  have e1 : Int.tmod (x.toNat : Int) 8 = ((x.toNat % 8 : Nat) : Int) := tmodN _ 8 (by decide)
  have e2 := sec_lo x.toNat x.toNat_lt
  have e3 : Int.tmod (y.toNat : Int) 64 = ((y.toNat % 64 : Nat) : Int) := tmodN _ 64 (by decide)
  have e4 := sec_hi y.toNat
  obtain ⟨x8, hx8⟩ : ∃ z, x.toNat % 8 = z := ⟨_, rfl⟩
  obtain ⟨y6, hy6⟩ : ∃ z, y.toNat % 64 = z := ⟨_, rfl⟩
  obtain ⟨xf, hxf⟩ : ∃ z, UInt8.ofNat (x.toNat - x.toNat % 8) = z := ⟨_, rfl⟩
  obtain ⟨yf, hyf⟩ : ∃ z, UInt8.ofNat (y.toNat % 64 + 64) = z := ⟨_, rfl⟩
  rw [hxf, hx8] at e2
  rw [hx8] at e1
  rw [hyf, hy6] at e4
  rw [hy6] at e3
  have hsec : secB dg = xf :: ((dg.take 31).tail ++ [yf]) := by
    unfold secB
    rw [← hxf, ← hyf, ← hx, ← hy]
    simp [List.getD, i0, i31]
  have HS := Lib.hid hsec
  have HW := Lib.hid hw2
  clear hx8 hy6 hxf hyf hsec hw2
  go_wp2_with fail
  go_quiet (fail)
  have kc1 := fun (m : Nat) => cut1 xf ((W2.drewN m).alloc (.cells #[.int .u8 (xf.toNat : Int)] 5)) W2.heap.size ((Blk.new (W2.drewN m) [.int .u8 (xf.toNat : Int)] 5).cell (k := 0) rfl)
  have kc2 := fun (m k : Nat) => cut1 xf (((W2.drewN m).alloc (.cells #[.int .u8 (xf.toNat : Int)] 5)).drewN k) W2.heap.size (((Blk.new (W2.drewN m) [.int .u8 (xf.toNat : Int)] 5).drewN k).cell (k := 0) rfl)
  have kc3 := fun (m : Nat) => cut1 xf (((W2.drewN m).alloc (.cells #[.int .u8 (xf.toNat : Int)] 5)).alloc (.cells #[.int .u8 (yf.toNat : Int)] 5)) W2.heap.size (((Blk.new (W2.drewN m) [.int .u8 (xf.toNat : Int)] 5).alloc (.cells #[.int .u8 (yf.toNat : Int)] 5)).cell (k := 0) rfl)
  have kc4 := fun (m : Nat) => cut1 yf (((W2.drewN m).alloc (.cells #[.int .u8 (xf.toNat : Int)] 5)).alloc (.cells #[.int .u8 (yf.toNat : Int)] 5)) (W2.heap.size + 1) (by have h := (Blk.new ((W2.drewN m).alloc (.cells #[.int .u8 (xf.toNat : Int)] 5)) [.int .u8 (yf.toNat : Int)] 5).cell (k := 0) rfl; simpa using h)
  have kc5 := fun (m k : Nat) => cut1 xf ((((W2.drewN m).alloc (.cells #[.int .u8 (xf.toNat : Int)] 5)).alloc (.cells #[.int .u8 (yf.toNat : Int)] 5)).drewN k) W2.heap.size ((((Blk.new (W2.drewN m) [.int .u8 (xf.toNat : Int)] 5).alloc (.cells #[.int .u8 (yf.toNat : Int)] 5)).drewN k).cell (k := 0) rfl)
  have kc6 := fun (m k : Nat) => cut1 yf ((((W2.drewN m).alloc (.cells #[.int .u8 (xf.toNat : Int)] 5)).alloc (.cells #[.int .u8 (yf.toNat : Int)] 5)).drewN k) (W2.heap.size + 1) (by have h := ((Blk.new ((W2.drewN m).alloc (.cells #[.int .u8 (xf.toNat : Int)] 5)) [.int .u8 (yf.toNat : Int)] 5).drewN k).cell (k := 0) rfl; simpa using h)
  have kc7 := fun (m k : Nat) => cut1 xf ((((W2.drewN m).alloc (.cells #[.int .u8 (xf.toNat : Int)] 5)).drewN k).alloc (.cells #[.int .u8 (yf.toNat : Int)] 5)) W2.heap.size ((((Blk.new (W2.drewN m) [.int .u8 (xf.toNat : Int)] 5).drewN k).alloc (.cells #[.int .u8 (yf.toNat : Int)] 5)).cell (k := 0) rfl)
  have kc8 := fun (m k : Nat) => cut1 yf ((((W2.drewN m).alloc (.cells #[.int .u8 (xf.toNat : Int)] 5)).drewN k).alloc (.cells #[.int .u8 (yf.toNat : Int)] 5)) (W2.heap.size + 1) (by have h := (Blk.new (((W2.drewN m).alloc (.cells #[.int .u8 (xf.toNat : Int)] 5)).drewN k) [.int .u8 (yf.toNat : Int)] 5).cell (k := 0) rfl; simpa using h)
  have kc9 := fun (m k j : Nat) => cut1 xf (((((W2.drewN m).alloc (.cells #[.int .u8 (xf.toNat : Int)] 5)).drewN k).alloc (.cells #[.int .u8 (yf.toNat : Int)] 5)).drewN j) W2.heap.size (((((Blk.new (W2.drewN m) [.int .u8 (xf.toNat : Int)] 5).drewN k).alloc (.cells #[.int .u8 (yf.toNat : Int)] 5)).drewN j).cell (k := 0) rfl)
  have kc10 := fun (m k j : Nat) => cut1 yf (((((W2.drewN m).alloc (.cells #[.int .u8 (xf.toNat : Int)] 5)).drewN k).alloc (.cells #[.int .u8 (yf.toNat : Int)] 5)).drewN j) (W2.heap.size + 1) (by have h := ((Blk.new (((W2.drewN m).alloc (.cells #[.int .u8 (xf.toNat : Int)] 5)).drewN k) [.int .u8 (yf.toNat : Int)] 5).drewN j).cell (k := 0) rfl; simpa using h)
  have kc11 := fun (m : Nat) => cut1 yf ((W2.drewN m).alloc (.cells #[.int .u8 (yf.toNat : Int)] 5)) W2.heap.size ((Blk.new (W2.drewN m) [.int .u8 (yf.toNat : Int)] 5).cell (k := 0) rfl)
  have kc12 := fun (m k : Nat) => cut1 yf (((W2.drewN m).alloc (.cells #[.int .u8 (yf.toNat : Int)] 5)).drewN k) W2.heap.size (((Blk.new (W2.drewN m) [.int .u8 (yf.toNat : Int)] 5).drewN k).cell (k := 0) rfl)
  have kc13 := fun (m : Nat) => cut1 yf (((W2.drewN m).alloc (.cells #[.int .u8 (yf.toNat : Int)] 5)).alloc (.cells #[.int .u8 (xf.toNat : Int)] 5)) W2.heap.size (((Blk.new (W2.drewN m) [.int .u8 (yf.toNat : Int)] 5).alloc (.cells #[.int .u8 (xf.toNat : Int)] 5)).cell (k := 0) rfl)
  have kc14 := fun (m : Nat) => cut1 xf (((W2.drewN m).alloc (.cells #[.int .u8 (yf.toNat : Int)] 5)).alloc (.cells #[.int .u8 (xf.toNat : Int)] 5)) (W2.heap.size + 1) (by have h := (Blk.new ((W2.drewN m).alloc (.cells #[.int .u8 (yf.toNat : Int)] 5)) [.int .u8 (xf.toNat : Int)] 5).cell (k := 0) rfl; simpa using h)
  have kc15 := fun (m k : Nat) => cut1 yf ((((W2.drewN m).alloc (.cells #[.int .u8 (yf.toNat : Int)] 5)).alloc (.cells #[.int .u8 (xf.toNat : Int)] 5)).drewN k) W2.heap.size ((((Blk.new (W2.drewN m) [.int .u8 (yf.toNat : Int)] 5).alloc (.cells #[.int .u8 (xf.toNat : Int)] 5)).drewN k).cell (k := 0) rfl)
  have kc16 := fun (m k : Nat) => cut1 xf ((((W2.drewN m).alloc (.cells #[.int .u8 (yf.toNat : Int)] 5)).alloc (.cells #[.int .u8 (xf.toNat : Int)] 5)).drewN k) (W2.heap.size + 1) (by have h := ((Blk.new ((W2.drewN m).alloc (.cells #[.int .u8 (yf.toNat : Int)] 5)) [.int .u8 (xf.toNat : Int)] 5).drewN k).cell (k := 0) rfl; simpa using h)
  have kc17 := fun (m k : Nat) => cut1 yf ((((W2.drewN m).alloc (.cells #[.int .u8 (yf.toNat : Int)] 5)).drewN k).alloc (.cells #[.int .u8 (xf.toNat : Int)] 5)) W2.heap.size ((((Blk.new (W2.drewN m) [.int .u8 (yf.toNat : Int)] 5).drewN k).alloc (.cells #[.int .u8 (xf.toNat : Int)] 5)).cell (k := 0) rfl)
  have kc18 := fun (m k : Nat) => cut1 xf ((((W2.drewN m).alloc (.cells #[.int .u8 (yf.toNat : Int)] 5)).drewN k).alloc (.cells #[.int .u8 (xf.toNat : Int)] 5)) (W2.heap.size + 1) (by have h := (Blk.new (((W2.drewN m).alloc (.cells #[.int .u8 (yf.toNat : Int)] 5)).drewN k) [.int .u8 (xf.toNat : Int)] 5).cell (k := 0) rfl; simpa using h)
  have kc19 := fun (m k j : Nat) => cut1 yf (((((W2.drewN m).alloc (.cells #[.int .u8 (yf.toNat : Int)] 5)).drewN k).alloc (.cells #[.int .u8 (xf.toNat : Int)] 5)).drewN j) W2.heap.size (((((Blk.new (W2.drewN m) [.int .u8 (yf.toNat : Int)] 5).drewN k).alloc (.cells #[.int .u8 (xf.toNat : Int)] 5)).drewN j).cell (k := 0) rfl)
  have kc20 := fun (m k j : Nat) => cut1 xf (((((W2.drewN m).alloc (.cells #[.int .u8 (yf.toNat : Int)] 5)).drewN k).alloc (.cells #[.int .u8 (xf.toNat : Int)] 5)).drewN j) (W2.heap.size + 1) (by have h := ((Blk.new (((W2.drewN m).alloc (.cells #[.int .u8 (yf.toNat : Int)] 5)).drewN k) [.int .u8 (xf.toNat : Int)] 5).drewN j).cell (k := 0) rfl; simpa using h)
  go_wp2_with fail
  go_region_with (fail)
  all_goals go_wp2
  all_goals
    go_ret2
    rw [HDG.out, HS.out]
    refine ⟨?_, ?_⟩
    · show Ending.returned (.tuple #[.string ((⟨#[xf]⟩ : ByteArray) ++ ⟨(dg.take 31).tail.toArray⟩ ++ ⟨#[yf]⟩), .string ⟨((dg.take 64).drop 32).toArray⟩]) = _
      rw [app3, show dg.take 64 = dg from List.take_of_length_le (by omega)]
    · have hw0 := HW.out.size
      iterate 8 (all_goals (first | exact HW.out | refine Below.drewN ?_ _ | refine Below.alloc ?_ ?_ _ | skip))
      all_goals (first | omega | (simp; omega) | (simp [World.drewN]; omega) | (simp; exact hw0))
end Go.Proofs.YtkfdclnaaphdgaaDoor
