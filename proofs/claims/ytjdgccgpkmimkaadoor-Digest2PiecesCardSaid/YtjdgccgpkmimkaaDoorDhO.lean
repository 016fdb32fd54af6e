/- Layer 3: a nil Hash; two of them; the law that what is handed in stays. -/
import Derived.Test.YtjdgccgpkmimkaaDoorDhM
import Derived.Stop.BytesEq
import Derived.WalkSpells
namespace Go.Proofs.YtjdgccgpkmimkaaDoor
open Go.ChangeShapes Go.WideShapes Go.ChangeAt Go.RowKit Go.IntWalk
set_option linter.unusedVariables false

theorem noGuardD : Tryd.prog.eqGuardType Tryd.prog.depth 24 = false := by kernel_rfl
theorem guardD (op : BinOp) (u v : Array Value) (x y : Operand) (W : World) : (eqGuard op 24 x y (.agg u) (.agg v)).run Tryd.prog W = .ok () W :=
  run_eqGuard_agg W op 24 x y _ _ noGuardD
theorem eqD (b c : List UInt8) (hb : b.length = 64) (hc : c.length = 64) (W : World) : (binOp .eql 24 (.agg (u8b b).toArray) (.agg (u8b c).toArray)).run Tryd.prog W = .ok (.bool (b == c)) W :=
  Go.run_eql_bytes W 24 5 64 Tryd.underlying24 Tryd.underlying5 (fun w => Tryd.sizeOf5 w) b c hb hc
theorem neqD (b c : List UInt8) (hb : b.length = 64) (hc : c.length = 64) (W : World) : (binOp .neq 24 (.agg (u8b b).toArray) (.agg (u8b c).toArray)).run Tryd.prog W = .ok (.bool (!(b == c))) W := by
  show (binOp .neq 24 (.agg (b.map fun c => Value.int .u8 c.toNat).toArray) (.agg (c.map fun c => Value.int .u8 c.toNat).toArray)).run Tryd.prog W = .ok (.bool (!(b == c))) W
  rw [run_neq_struct, show (Op.equalIn 10000 24 (.agg (b.map fun c => Value.int .u8 c.toNat).toArray) (.agg (c.map fun c => Value.int .u8 c.toNat).toArray)).run Tryd.prog W = .ok (b == c) W from
    run_equalIn_bytes W 9998 24 5 64 Tryd.underlying24 Tryd.underlying5 (fun w => Tryd.sizeOf5 w) b c hb hc]
  rfl
theorem sameD (b : List UInt8) (hb : b.length = 64) (W : World) : (binOp .eql 24 (.agg (u8b b).toArray) (.agg (u8b b).toArray)).run Tryd.prog W = .ok (.bool true) W := by
  rw [eqD b b hb hb W]; simp
theorem nsameD (b : List UInt8) (hb : b.length = 64) (W : World) : (binOp .neq 24 (.agg (u8b b).toArray) (.agg (u8b b).toArray)).run Tryd.prog W = .ok (.bool false) W := by
  rw [neqD b b hb hb W]; simp
theorem buildD (W : World) : (Instr.build 24 #[]).run Tryd.prog W = .ok (.agg (u8b (List.replicate 64 0)).toArray) W := by kernel_rfl
theorem HSt.kept {w w1 : World} {x g tot : Nat} {bs : List UInt8} (h : HSt w x bs tot) (hg : w.grownBy w1 (some g)) (hne : x ≠ g) : HSt w1 x bs tot := by
  obtain ⟨wt, h1, h2, hB⟩ := h
  exact ⟨wt, h1, h2, hB.kept hg hne⟩
theorem HSt.below {w w1 : World} {x tot : Nat} {bs : List UInt8} (h : HSt w x bs tot) (hb : Below w.heap.size w w1) : HSt w1 x bs tot := by
  obtain ⟨wt, h1, h2, hB⟩ := h
  exact ⟨wt, h1, h2, hB.later hb⟩
theorem HSt.lt {w : World} {x tot : Nat} {bs : List UInt8} (h : HSt w x bs tot) : x < w.heap.size := by
  obtain ⟨wt, h1, h2, hB⟩ := h
  exact hB.lt
theorem write_nil (A : Option Addr) (n c : Nat) (w : World) :
    Calls Tryd.prog 11 #[.pointer none, .slice A n c] w fun e w' => e = .returned (.tuple #[]) ∧ Below w.heap.size w w' := by
  go_enter Tryd.func11, Tryd.ntmps11
  go_wp2_with fail
  exact bodyPost_ret (v := .tuple #[]) (by simp [results, Tryd.results11, go_sem]) rfl ⟨rfl, Below.refl _ _⟩
set_option maxRecDepth 100000 in
set_option maxHeartbeats 4000000 in
theorem sum_nil (w : World) :
    Calls Tryd.prog 12 #[.pointer none] w fun e w' => e = .returned (.agg (u8b (List.replicate 64 0)).toArray) ∧ Below w.heap.size w w' := by
  go_enter Tryd.func12, Tryd.ntmps12
  go_upto_region 3 with (fail)
  refine wp_gen (fun W1 => SmW [] 0 w W1) (alloc2 w (u8b (List.replicate 64 0)) (u8b (List.replicate 64 0)) 24 24) ?_
  intro W1 hs
  obtain ⟨ds, hds⟩ : ∃ d, u8b (List.replicate 64 0) = d := ⟨_, rfl⟩
  have hlen : ds.length = 64 := by rw [← hds, u8b_len, List.length_replicate]
  have hz := hs.1
  have hu := hs.2.1
  have hbw := hs.2.2
  rw [hds] at hz hu
  have hone : ds.toArray.all (·.oneCell') = true := by rw [← hds]; exact one8b _
  have hsz : (Tryd.prog.info? 24).map (·.size) = some ds.length := by rw [hlen]; exact sizeSz
  have HRF := Lib.hid hu.rng
  have HTH := Lib.hid (hz.there (n := ds.toArray.size) (by simp))
  have HZ2 := Lib.hid (Blk.load (hz.setAll (vs := ds) rfl) 24 Tryd.underlying24 rfl hsz)
  have HB2 := Lib.hid (blw_cells (Nat.le_refl _) ds 0 _ hbw)
  have HO := Lib.hid hone
  have HZF := Lib.hid hsz
  have HZG : Hid ((Tryd.prog.info? 24).map (·.size) = some ds.toArray.size) := Lib.hid (by simpa using hsz)
  have HDS := Lib.hid hds
  clear hu hz hbw hlen hds hone hsz hs
  go_wp2_with (first
    | (refine wpList_load_mid rfl 24 _ rfl (w.heap.size + 1) 0 rfl ds _ HRF.out Tryd.underlying24 rfl HZF.out ?_)
    | (refine wpList_store_mid rfl 24 _ _ rfl w.heap.size 0 ds.toArray rfl rfl HTH.out HZG.out HO.out ?_))
  exact bodyPost_ret (v := .agg ds.toArray) (res_cell rfl _ _ _ _ rfl HZ2.out) rfl ⟨by rw [HDS.out], HB2.out⟩
end Go.Proofs.YtjdgccgpkmimkaaDoor
