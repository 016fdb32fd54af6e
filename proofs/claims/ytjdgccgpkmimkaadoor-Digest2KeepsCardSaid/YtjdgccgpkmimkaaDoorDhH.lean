/- Layer 3: a digest's beginning, and that of bytes, walked. -/
import Derived.Test.YtjdgccgpkmimkaaDoorDhG
namespace Go.Proofs.YtjdgccgpkmimkaaDoor
open Go.ChangeShapes Go.WideShapes Go.ChangeAt Go.RowKit Go.IntWalk
set_option linter.unusedVariables false

theorem wpList_build1 {P : Program} {ops : Array Oper} {rest : List Oper} {o : Oper} {a : Act} {Q : Exit → Act → World → Prop} {w : World} (hgd : o.guard = none) (ty : TypeId) (i : Nat) (y : Operand) (ho : o.op = .build ty #[(i, y)])
    (v : Value) (hv : a.eval y = v) (x : Value) (hrun : (Instr.build ty #[(i, v)]).run P w = .ok x w)
    (h : wpList P ops Q rest (a.put o.dst x) w) : wpList P ops Q (o :: rest) a w := by
  refine wpList_plain hgd fun K hK => ?_
  unfold Oper.wp
  have e : (#[(i, y)] : Array (Nat × Operand)).map (fun (i, x) => (i, a.eval x)) = #[(i, v)] := by simp [hv]
  simp only [execOp, ho, e]
  simp [hrun, Result.andThen]
  exact hK _ _ h
def startL : List Value := HC initS (List.replicate 128 0) 0 0
theorem build_new (W : World) : (Instr.build 45 #[(0, A8 initS)]).run Tryd.prog W = .ok (.agg startL.toArray) W := by kernel_rfl
theorem HSt.start {w : World} {g : Nat} (h : Blk w g 45 startL) : HSt w g [] 0 := ⟨List.replicate 128 0, rfl, rfl, h⟩
set_option maxRecDepth 100000 in
set_option maxHeartbeats 4000000 in
theorem new_calls (w : World) :
    Calls Tryd.prog 10 #[] w fun e w' => e = .returned (.pointer (some ⟨w.heap.size, 0, none⟩)) ∧ HSt w' w.heap.size [] 0 ∧ Below w.heap.size w w' := by
  obtain ⟨zs, hzs⟩ : ∃ z, startL = z := ⟨_, rfl⟩
  have hbu : ∀ W, (Instr.build 45 #[(0, .agg #[.int .u64 7640891576956012808, .int .u64 13503953896175478587, .int .u64 4354685564936845355, .int .u64 11912009170470909681, .int .u64 5840696475078001361, .int .u64 11170449401992604703, .int .u64 2270897969802886507, .int .u64 6620516959819538809])]).run Tryd.prog W = .ok (.agg zs.toArray) W := fun W => by rw [← hzs]; exact build_new W
  have HBU := Lib.hid hbu
  have H := Lib.hid (show HSt (w.alloc (.cells zs.toArray 45)) w.heap.size [] 0 from HSt.start (by rw [hzs]; exact Blk.new w zs _))
  clear hzs hbu
  go_enter Tryd.func10, Tryd.ntmps10
  go_wp2_with (refine wpList_build1 rfl 45 0 (.tmp 1) rfl (.agg #[.int .u64 7640891576956012808, .int .u64 13503953896175478587, .int .u64 4354685564936845355, .int .u64 11912009170470909681, .int .u64 5840696475078001361, .int .u64 11170449401992604703, .int .u64 2270897969802886507, .int .u64 6620516959819538809]) rfl (.agg zs.toArray) (HBU.out _) ?_)
  go_ret
  exact ⟨rfl, H.out, (Below.refl _ _).alloc (Nat.le_refl _) _⟩
set_option maxRecDepth 100000 in
set_option maxHeartbeats 4000000 in
theorem of_calls (bs : List UInt8) (hb : bs.length < 2 ^ 30) (A : Option Addr) (n c : Nat) (hn : Hid (n = bs.length)) (hc : n ≤ c) (w : World) (hT : Tab w) (hr : RB w A bs) :
    Calls Tryd.prog 8 #[.slice A n c] w fun e w' => e = .returned (.agg (u8b (digest bs)).toArray) ∧ Below w.heap.size w w' := by
  have H0 := Lib.hid (And.intro hT hr)
  clear hT hr
  go_enter Tryd.func8, Tryd.ntmps8
  go_upto_region 1 with (fail)
  refine wp_gen (fun W1 => Blk W1 w.heap.size 24 (u8b (List.replicate 64 0)) ∧ Below w.heap.size w W1) (alloc1 w (u8b (List.replicate 64 0)) 24) ?_
  rintro W1 ⟨hz1, hb1⟩
  have H1 := Lib.hid (And.intro hz1 hb1)
  clear hz1 hb1
  go_wp2_with fail
  refine (new_calls _).mono ?_
  rintro e w2 ⟨rfl, hh2, hb2⟩
  have hT2 := (H0.out.1.later H1.out.2).later hb2
  have hr2 := (H0.out.2.below H1.out.2).below hb2
  have hz2 := H1.out.1.later hb2
  have hw2 := H1.out.2.then_ hb2
  have hW1 : w.heap.size < W1.heap.size := H1.out.1.lt
  obtain ⟨g, hg⟩ : ∃ g, W1.heap.size = g := ⟨_, rfl⟩
  have hap : 0 < bs.length → ∀ x o, A = some ⟨x, o, none⟩ → x ≠ g := by
    intro h0 x o h
    obtain ⟨x2, o2, h2, hx2⟩ := H0.out.2.some h0
    rw [h] at h2; injection h2 with h2; injection h2 with h2
    rw [h2]; omega
  rw [hg] at hh2 ⊢
  have hl1 : w.heap.size < g := by omega
  have hc1 : ([] : List UInt8).length + bs.length < 2 ^ 40 := by simp; omega
  go_wp2_with fail
  refine (write_calls g [] bs hc1 A n c hn hc w2 hT2 (by omega) hr2 hap hh2).mono ?_
  rintro e w3 ⟨rfl, hh3, hg3⟩
  rw [List.nil_append, show ([] : List UInt8).length + bs.length = bs.length by simp] at hh3
  have hT3 := hT2.kept hg3 (by omega)
  have hz3 := hz2.kept hg3 (by omega)
  have hw3 := hw2.gb hg3 (by omega) hw2.size
  have H3 := Lib.hid (And.intro hz3 hw3)
  clear hz3 hw3 hz2 hw2 hap hr2 hT2 hh2 hb2 H0 H1 hc1
  go_wp2_with fail
  refine (sum_calls g bs hb w3 hT3 (by omega) hh3).mono ?_
  rintro e w4 ⟨rfl, hb4⟩
  obtain ⟨ds, hds⟩ : ∃ d, u8b (digest bs) = d := ⟨_, rfl⟩
  have hlen : ds.length = 64 := by rw [← hds, u8b_len, digest_len]
  have hone : ds.toArray.all (·.oneCell') = true := by rw [← hds]; exact one8b _
  rw [hds]
  have HDS := Lib.hid hds
  have hz4 := H3.out.1.later hb4
  have hsz : (Tryd.prog.info? 24).map (·.size) = some ds.length := by rw [hlen]; exact sizeSz
  have HTH := Lib.hid (hz4.there (n := ds.toArray.size) (by simp [hlen, u8b_len]))
  have HZ2 := Lib.hid (Blk.load (hz4.setAll (vs := ds) (by simp [hlen, u8b_len])) 24 Tryd.underlying24 rfl hsz)
  have HB2 := Lib.hid (blw_cells (Nat.le_refl _) ds 0 _ (H3.out.2.then_ hb4))
  have HO := Lib.hid hone
  have HZG : Hid ((Tryd.prog.info? 24).map (·.size) = some ds.toArray.size) := Lib.hid (by simpa using hsz)
  clear hz4 hlen hone hsz hds hb4 hT3 hh3 hg3
  go_wp2_with (refine wpList_store_mid rfl 24 _ _ rfl w.heap.size 0 ds.toArray rfl rfl HTH.out HZG.out HO.out ?_)
  exact bodyPost_ret (v := .agg ds.toArray) (res_cell rfl _ _ _ _ rfl HZ2.out) rfl ⟨by rw [HDS.out], HB2.out⟩
end Go.Proofs.YtjdgccgpkmimkaaDoor
