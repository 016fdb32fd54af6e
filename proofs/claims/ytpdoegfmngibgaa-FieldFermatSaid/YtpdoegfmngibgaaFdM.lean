/- Layer 4: FieldFermat, walked. -/
import Derived.Test.YtpdoegfmngibgaaFdK
import Derived.Test.YtpdoegfmngibgaaLs
namespace Go.Proofs.Ytpdoegfmngibgaa
open Go.ChangeShapes Go.WideShapes Go.ChangeAt Go.RowKit Go.IntWalk
set_option linter.unusedVariables false

/-- Behind k rounds. -/
def fmB (k : Nat) : List UInt8 := List.replicate k 255 ++ List.replicate (31 - k) 0 ++ [127]
theorem fm_step : ∀ k : Fin 31, (fmB k.val).set k.val 255 = fmB (k.val + 1) := by decide +kernel
theorem fm_len (k : Nat) (h : k ≤ 31) : (fmB k).length = 32 := by simp [fmB]; omega
def fmP : List UInt8 := (fmB 31).set 0 237
def fmQ : List UInt8 := fmP.set 0 236
theorem fmP_val : leN fmP = P := by decide +kernel
theorem fmQ_val : leN fmQ = P - 1 := by decide +kernel
theorem size32' (bs : List UInt8) (h : bs.length = 32) : (Try.prog.info? 22).map (·.size) = some (u8s bs).length := by rw [show (u8s bs).length = 32 by simp [u8s, h]]; exact size32
theorem one8 (bs : List UInt8) : (u8s bs).toArray.all (·.oneCell') = true := by
  apply all_oneCell_toArray
  intro v hv
  obtain ⟨y, _, rfl⟩ := List.mem_map.1 hv
  rfl
theorem UBlk.rng {w : World} {g : Nat} {bs : List UInt8} (h : UBlk w g bs) : w.rangeAt g 0 (u8s bs) := h.range rfl
theorem UBlk.later {w w1 : World} {g : Nat} {bs : List UInt8} (h : UBlk w g bs) (b : Below w.heap.size w w1) : UBlk w1 g bs := (b.block g (Array.getElem?_eq_some_iff.1 h).1).trans h
theorem EBlk.later {w w1 : World} {g : Nat} {bs : List Nat} (h : EBlk w g bs) (b : Below w.heap.size w w1) : EBlk w1 g bs := (b.block g (Array.getElem?_eq_some_iff.1 h).1).trans h
theorem size5 : (Try.prog.info? 27).map (·.size) = some 5 := by kernel_rfl
theorem EBlk.rng {w : World} {g : Nat} {ls : List Nat} (h : EBlk w g ls) : w.rangeAt g 0 (ls.map fun (n : Nat) => Value.int .u64 (n : Int)) := by
  intro j v hv
  unfold EBlk at h
  rw [Nat.zero_add, cell_of_row _ _ _ _ _ _ h]; simpa using hv
theorem prmP : Prm P := prm25519
theorem fermP (n : Nat) : n ^ P % P = n % P := prmP.fermat n
theorem ferm1 (n : Nat) : decide (n ^ leN fmQ % P = 1 % P) = !decide (n % P = 0 % P) := by
  have h1 : 1 % P = 1 := by decide +kernel
  have h2 : 0 < P - 1 := by decide +kernel
  rw [fmQ_val, h1, Nat.zero_mod]
  by_cases h : n % P = 0
  · have hp : n ^ (P - 1) % P = 0 := by rw [Nat.pow_mod, h, Nat.zero_pow h2, Nat.zero_mod]
    rw [hp, h]; rfl
  · have hp := prmP.fermat1 (a := n) (fun hd => h (Nat.mod_eq_zero_of_dvd hd))
    rw [hp, decide_eq_false h, decide_eq_true rfl]; rfl
theorem leN_zeros : leN (List.replicate 32 0) = 0 := by decide +kernel
theorem ferm0 (n : Nat) : decide (n ^ leN (List.replicate 32 0) % P = 1 % P) = true := by rw [leN_zeros, Nat.pow_zero, decide_eq_true rfl]
section
variable {P : Program} {ops : Array Oper} {C : World → Prop} {W0 : World} {Q : Act → Prop} {o : Oper} {rest : List Oper} {Rs : List (Value → Prop)} {a : Act}
theorem ls_el {g m0 m1 m2 m3 m4 : Nat} (x : Operand) (hE : EBlk W0 g [m0, m1, m2, m3, m4]) (hb : g < W0.heap.size) (ho : o.op = .load 27 x) (hw : Region.wanted o (yielded ops a.tmps) = true) (hx : a.eval x = .pointer (some ⟨g, 0, none⟩))
    (h2 : wpLs Try.prog ops (fun w' => Below W0.heap.size W0 w') Q rest Rs (a.put o.dst (E5 m0 m1 m2 m3 m4))) : wpLs Try.prog ops (fun w' => Below W0.heap.size W0 w') Q (o :: rest) ((· = E5 m0 m1 m2 m3 m4) :: Rs) a :=
  ls_load 27 x ho g 0 _ _ hE.rng hb Try.underlying27 rfl size5 hw hx h2
theorem ls_b32 {g : Nat} {bs : List UInt8} (x : Operand) (hU : UBlk W0 g bs) (hl : bs.length = 32) (hb : g < W0.heap.size) (ho : o.op = .load 22 x) (hw : Region.wanted o (yielded ops a.tmps) = true) (hx : a.eval x = .pointer (some ⟨g, 0, none⟩))
    (h2 : wpLs Try.prog ops (fun w' => Below W0.heap.size W0 w') Q rest Rs (a.put o.dst (A32 bs))) : wpLs Try.prog ops (fun w' => Below W0.heap.size W0 w') Q (o :: rest) ((· = A32 bs) :: Rs) a :=
  ls_load 22 x ho g 0 _ _ hU.rng hb Try.underlying22 rfl (size32' bs hl) hw hx h2
theorem ls_call_el (r : Nat) (f : FuncId) (args : Array Value) (hw : Region.wanted o (yielded ops a.tmps) = true) (he : ∀ W, (execOp a.eval o).run P W = .ok (.enter f args) W)
    (hc : ∀ W, Calls P f args W (ElPost r W)) (h2 : ∀ v, IsEl v r → wpLs P ops (fun w' => Below W0.heap.size W0 w') Q rest Rs (a.put o.dst v)) :
    wpLs P ops (fun w' => Below W0.heap.size W0 w') Q (o :: rest) ((fun v => IsEl v r) :: Rs) a :=
  ls_call _ f args hw he hc h2
end
theorem litZ127 : A32 (fmB 0) = .agg #[.int .u8 0, .int .u8 0, .int .u8 0, .int .u8 0, .int .u8 0, .int .u8 0, .int .u8 0, .int .u8 0, .int .u8 0, .int .u8 0, .int .u8 0, .int .u8 0, .int .u8 0, .int .u8 0, .int .u8 0, .int .u8 0, .int .u8 0, .int .u8 0, .int .u8 0, .int .u8 0, .int .u8 0, .int .u8 0, .int .u8 0, .int .u8 0, .int .u8 0, .int .u8 0, .int .u8 0, .int .u8 0, .int .u8 0, .int .u8 0, .int .u8 0, .int .u8 127] := rfl
theorem setCells_blk {g : Nat} {T : TypeId} {fr : Nat × Nat} : ∀ (vs : List Value) (o : Nat) (W : World) (cs : List Value), W.heap[g]? = some (.cells cs.toArray T fr) → o + vs.length ≤ cs.length →
    (W.setCells g o vs).heap[g]? = some (.cells (cs.take o ++ vs ++ cs.drop (o + vs.length)).toArray T fr)
  | [], o, W, cs, h, _ => by simpa [World.setCells] using h
  | v :: vs, o, W, cs, h, hl => by
    have hlt : o < cs.length := by simp at hl; omega
    have h1 : (W.setCell ⟨g, o, none⟩ v).heap[g]? = some (.cells (cs.set o v).toArray T fr) := by
      simp [World.setCell, Array.getElem?_modify, h]
    have h2 := setCells_blk vs (o + 1) (W.setCell ⟨g, o, none⟩ v) (cs.set o v) h1 (by simp at hl ⊢; omega)
    have hto : (cs.take o).length = o := by simp; omega
    have e : ((cs.set o v).take (o + 1) ++ vs ++ (cs.set o v).drop (o + 1 + vs.length)) = cs.take o ++ (v :: vs) ++ cs.drop (o + (v :: vs).length) := by
      have d1 : (cs.take o).take (o + 1) = cs.take o := List.take_of_length_le (by omega)
      have d2 : (cs.take o).drop (o + 1 + vs.length) = [] := List.drop_of_length_le (by omega)
      rw [List.set_eq_take_append_cons_drop, if_pos hlt, List.take_append, List.drop_append, hto, d1, d2, show o + 1 - o = 1 by omega, show o + 1 + vs.length - o = vs.length + 1 by omega]
      simp [Nat.add_comm, Nat.add_left_comm]
    rw [e] at h2
    exact h2
theorem UBlk.setAll {W : World} {g : Nat} {bs cs : List UInt8} (h : UBlk W g bs) (hl : bs.length = cs.length) : UBlk (W.setCells g 0 (u8s cs)) g cs := by
  have := setCells_blk (u8s cs) 0 W (u8s bs) h (by simp [u8s, hl])
  have hz : (u8s bs).length = 0 + (u8s cs).length := by simp [u8s, hl]
  rw [List.take_zero, List.nil_append, ← hz, List.drop_length, List.append_nil] at this
  exact this
theorem UBlk.new0 (w : World) : UBlk (w.alloc (.cells #[.int .u8 0, .int .u8 0, .int .u8 0, .int .u8 0, .int .u8 0, .int .u8 0, .int .u8 0, .int .u8 0, .int .u8 0, .int .u8 0, .int .u8 0, .int .u8 0, .int .u8 0, .int .u8 0, .int .u8 0, .int .u8 0, .int .u8 0, .int .u8 0, .int .u8 0, .int .u8 0, .int .u8 0, .int .u8 0, .int .u8 0, .int .u8 0, .int .u8 0, .int .u8 0, .int .u8 0, .int .u8 0, .int .u8 0, .int .u8 0, .int .u8 0, .int .u8 0] 22)) w.heap.size (List.replicate 32 0) := heap_alloc_new w _
set_option maxRecDepth 100000 in
set_option maxHeartbeats 4000000 in
theorem fieldFermat_walk (bs : List UInt8) (hl : bs.length = 32) (w : World) :
    Calls Try.prog 10 #[.agg (bs.map fun c => Value.int .u8 (c.toNat : Int)).toArray] w fun e w' => e = .returned (.bool true) ∧ Below w.heap.size w w' := by
  obtain ⟨cs, hcs⟩ : ∃ cs, u8s bs = cs := ⟨_, rfl⟩
  rw [show (bs.map fun c => Value.int .u8 (c.toNat : Int)) = cs from hcs]
  have HCS := Lib.hid hcs
  clear hcs
  go_enter Try.func10, Try.ntmps10
  go_wp2_with fail
  refine (alive_calls _).mono ?_
  rintro e w1 ⟨rfl, b1⟩
  have h0 := UBlk.new0 w1
  have HT : Hid _ := Lib.hid (h0.there rfl)
  have HU := Lib.hid (h0.setAll (cs := fmB 0) rfl)
  have HSZ := Lib.hid (size32' (fmB 0) rfl)
  have HON := Lib.hid (one8 (fmB 0))
  have HB1 := Lib.hid b1
  clear h0 b1
  go_wp2_with (refine wpList_store_mid rfl 22 _ _ rfl w1.heap.size 0 (u8s (fmB 0)).toArray rfl rfl HT.out HSZ.out HON.out ?_)
  obtain ⟨g, hg⟩ : ∃ g, w1.heap.size = g := ⟨_, rfl⟩
  have hb0 : Below w.heap.size w ((w1.alloc (.cells #[.int .u8 0, .int .u8 0, .int .u8 0, .int .u8 0, .int .u8 0, .int .u8 0, .int .u8 0, .int .u8 0, .int .u8 0, .int .u8 0, .int .u8 0, .int .u8 0, .int .u8 0, .int .u8 0, .int .u8 0, .int .u8 0, .int .u8 0, .int .u8 0, .int .u8 0, .int .u8 0, .int .u8 0, .int .u8 0, .int .u8 0, .int .u8 0, .int .u8 0, .int .u8 0, .int .u8 0, .int .u8 0, .int .u8 0, .int .u8 0, .int .u8 0, .int .u8 0] 22)).setCells w1.heap.size 0 (u8s (fmB 0))) :=
    below_cells (Nat.le_trans (by simp) HB1.out.size) _ _ _ ((below1 HB1.out).alloc (below1 HB1.out).size _)
  have hr0 : ((w1.alloc (.cells #[.int .u8 0, .int .u8 0, .int .u8 0, .int .u8 0, .int .u8 0, .int .u8 0, .int .u8 0, .int .u8 0, .int .u8 0, .int .u8 0, .int .u8 0, .int .u8 0, .int .u8 0, .int .u8 0, .int .u8 0, .int .u8 0, .int .u8 0, .int .u8 0, .int .u8 0, .int .u8 0, .int .u8 0, .int .u8 0, .int .u8 0, .int .u8 0, .int .u8 0, .int .u8 0, .int .u8 0, .int .u8 0, .int .u8 0, .int .u8 0, .int .u8 0, .int .u8 0] 22)).setCells w1.heap.size 0 (u8s (fmB 0))).rangeAt w.heap.size 0 cs := by
    have h1 : (w.alloc (.cells cs.toArray 22)).rangeAt w.heap.size 0 cs := by
      intro j v hv
      rw [Nat.zero_add, cell_of_row _ _ _ _ _ _ (heap_alloc_new w _)]; simpa using hv
    have h2 : w1.rangeAt w.heap.size 0 cs := fun j v hv => (HB1.out.cell (p := ⟨w.heap.size, 0 + j, none⟩) (by simp)).trans (h1 j v hv)
    exact World.rangeAt_setCells_apart (World.rangeAt_alloc h2 _) _ _ _ (.inl (by have := HB1.out.size; simp at this; omega))
  have hgw : w.heap.size < g := by rw [← hg]; have := HB1.out.size; simp at this; omega
  rw [hg] at HU hb0 hr0 ⊢
  generalize (w1.alloc (.cells #[.int .u8 0, .int .u8 0, .int .u8 0, .int .u8 0, .int .u8 0, .int .u8 0, .int .u8 0, .int .u8 0, .int .u8 0, .int .u8 0, .int .u8 0, .int .u8 0, .int .u8 0, .int .u8 0, .int .u8 0, .int .u8 0, .int .u8 0, .int .u8 0, .int .u8 0, .int .u8 0, .int .u8 0, .int .u8 0, .int .u8 0, .int .u8 0, .int .u8 0, .int .u8 0, .int .u8 0, .int .u8 0, .int .u8 0, .int .u8 0, .int .u8 0, .int .u8 0] 22)).setCells g 0 (u8s (fmB 0)) = W0 at *
  have HB0 := Lib.hid hb0
  have HR0 := Lib.hid hr0
  clear hb0 hr0 HB1 HT hg
  go_loopw [4] (fun i wr => ∃ k : Nat, k ≤ 31 ∧ i = .int .i64 (k : Int) ∧ UBlk wr g (fmB k) ∧ wr.rangeAt w.heap.size 0 cs ∧ Below w.heap.size w wr) (fun i _ => 31 - (intOf i).toNat)
  case atStart => exact ⟨0, by omega, rfl, HU.out, HR0.out, HB0.out⟩
  case round =>
    obtain ⟨k, hk, rfl, hu, hr, hb⟩ := hrel
    by_cases hp : k < 31
    · have hcl : k < (fmB k).length := by rw [fm_len k hk]; omega
      have g1 := hu.cell hcl
      have g2 := hu.frozen k
      have hu2 := hu.set_ k 255
      rw [fm_step ⟨k, hp⟩] at hu2
      have hn : UBlk (wr.setCell ⟨g, k, none⟩ (.int .u8 255)) g (fmB (k + 1)) := hu2
      have hr2 : (wr.setCell ⟨g, k, none⟩ (.int .u8 255)).rangeAt w.heap.size 0 cs := fun j v hv => (World.cell?_setCell_other _ _ _ _ (by intro e; injection e with e1 e2; omega)).trans (hr j v hv)
      have hb2 : Below w.heap.size w (wr.setCell ⟨g, k, none⟩ (.int .u8 255)) := hb.setCell (by show w.heap.size ≤ g; omega) _
      have HN := Lib.hid (And.intro hn (And.intro hr2 hb2))
      have e1 : IntKind.i64.wrap ((k : Int) + 1) = (k : Int) + 1 := IntWalk.i64_in _ (by omega)
      generalize (fmB k)[k] = y at *
      clear hu hr hb hu2 hn hr2 hb2 hcl
      go_wp2_with fail
      exact ⟨⟨k + 1, by omega, by go_num, HN.out⟩, by simp [intOf]; omega⟩
    · obtain rfl : k = 31 := by omega
      have hcl : 0 < (fmB 31).length := by decide
      have g1 := hu.cell hcl
      have g2 := hu.frozen 0
      have hu2 : UBlk (wr.setCell ⟨g, 0, none⟩ (.int .u8 237)) g fmP := hu.set_ 0 237
      have hr2 : (wr.setCell ⟨g, 0, none⟩ (.int .u8 237)).rangeAt w.heap.size 0 cs := fun j v hv => (World.cell?_setCell_other _ _ _ _ (by intro e; injection e with e1 e2; omega)).trans (hr j v hv)
      have hb2 : Below w.heap.size w (wr.setCell ⟨g, 0, none⟩ (.int .u8 237)) := hb.setCell (by show w.heap.size ≤ g; omega) _
      have HN := Lib.hid (And.intro hu2 (And.intro hr2 hb2))
      have HCL := Lib.hid (show cs.length = 32 by rw [← HCS.out]; simp [u8s, hl])
      have hsz : (Try.prog.info? 22).map (·.size) = some cs.length := by rw [HCL.out]; exact size32
      have HSZ2 := Lib.hid hsz
      generalize (fmB 31)[0] = y at *
      clear hu hr hb hu2 hr2 hb2 hcl hsz
      go_wp2_with ((refine wpList_load_mid rfl 22 _ rfl w.heap.size 0 rfl cs _ HN.out.2.1 Try.underlying22 rfl HSZ2.out ?_))
      have hof : ∀ W, Calls Try.prog 13 #[.agg cs.toArray] W (ElPost (leN bs) W) := by rw [← HCS.out]; exact fun W => of_calls bs hl W
      refine (hof _).mono ?_
      rintro e w2 ⟨x, rfl, hx, b2⟩
      obtain ⟨m0, m1, m2, m3, m4, rfl, hok, hval⟩ := hx.form
      clear hok hval hof
      have HX := Lib.hid hx
      have HB2 := Lib.hid b2
      clear hx b2 g1 g2
      go_wp2_with fail
      have hE : EBlk (w2.alloc (.cells #[.int .u64 (m0 : Int), .int .u64 (m1 : Int), .int .u64 (m2 : Int), .int .u64 (m3 : Int), .int .u64 (m4 : Int)] 27)) w2.heap.size [m0, m1, m2, m3, m4] := heap_alloc_new w2 _
      have hsz2 : w2.heap.size < (w2.alloc (.cells #[.int .u64 (m0 : Int), .int .u64 (m1 : Int), .int .u64 (m2 : Int), .int .u64 (m3 : Int), .int .u64 (m4 : Int)] 27)).heap.size := by simp
      have hU : UBlk (w2.alloc (.cells #[.int .u64 (m0 : Int), .int .u64 (m1 : Int), .int .u64 (m2 : Int), .int .u64 (m3 : Int), .int .u64 (m4 : Int)] 27)) g fmP :=
        (heap_alloc_old _ _ (Array.getElem?_eq_some_iff.1 (HN.out.1.later HB2.out)).1).trans (HN.out.1.later HB2.out)
      have hB3 : Below w.heap.size w (w2.alloc (.cells #[.int .u64 (m0 : Int), .int .u64 (m1 : Int), .int .u64 (m2 : Int), .int .u64 (m3 : Int), .int .u64 (m4 : Int)] 27)) :=
        (HN.out.2.2.then_ HB2.out).alloc (HN.out.2.2.then_ HB2.out).size _
      generalize w2.alloc (.cells #[.int .u64 (m0 : Int), .int .u64 (m1 : Int), .int .u64 (m2 : Int), .int .u64 (m3 : Int), .int .u64 (m4 : Int)] 27) = W3 at *
      generalize w2.heap.size = gx at *
      have hgU : g < W3.heap.size := (Array.getElem?_eq_some_iff.1 hU).1
      have hpow : leN bs ^ leN fmP % P = leN bs % P := by rw [fmP_val]; exact fermP _
      apply wp_region_ls (by kernel_rfl) (by kernel_rfl)
      apply ls_el (.tmp 5) hE hsz2 rfl rfl rfl
      simp only [Act.put, List.setIfInBounds_toArray, List.set_cons_succ, List.set_cons_zero]
      apply ls_b32 (.tmp 3) hU rfl hgU rfl rfl rfl
      simp only [Act.put, List.setIfInBounds_toArray, List.set_cons_succ, List.set_cons_zero]
      apply ls_call_el (leN bs ^ leN fmP) 28 #[E5 m0 m1 m2 m3 m4, A32 fmP] rfl (by intro W; go_simp) (fun W => pow_calls _ _ _ HX.out rfl W)
      intro v hv
      simp only [Act.put, List.setIfInBounds_toArray, List.set_cons_succ, List.set_cons_zero]
      apply ls_el (.tmp 5) hE hsz2 rfl rfl rfl
      simp only [Act.put, List.setIfInBounds_toArray, List.set_cons_succ, List.set_cons_zero]
      apply ls_callx (.bool true) 17 #[v, E5 m0 m1 m2 m3 m4] rfl (by intro W; go_simp) (fun W => (is_calls _ _ _ _ hv HX.out W).mono fun e W' h => ⟨by rw [h.1, decide_eq_true hpow], h.2⟩)
      simp only [Act.put, List.setIfInBounds_toArray, List.set_cons_succ, List.set_cons_zero]
      apply ls_pure (.bool false) rfl (by intro W; go_simp)
      simp only [Act.put, List.setIfInBounds_toArray, List.set_cons_succ, List.set_cons_zero]
      refine ls_nil (Rs := []) ?_
      intro w4 b4
      clear hpow hv
      have hU4 := hU.later b4
      have hE4 := hE.later b4
      have hc0 : 0 < fmP.length := by decide
      have g1 := hU4.cell hc0
      have g2 := hU4.frozen 0
      have hU5 : UBlk (w4.setCell ⟨g, 0, none⟩ (.int .u8 236)) g fmQ := hU4.set_ 0 236
      have hgx : gx ≠ g := by
        intro e; subst e
        have h1 : W3.heap[gx]? = _ := hU
        have h2 : W3.heap[gx]? = _ := hE
        rw [h1] at h2; injection h2 with h3; injection h3 with h4 h5 h6; exact absurd h5 (by decide)
      have hE5 : EBlk (w4.setCell ⟨g, 0, none⟩ (.int .u8 236)) gx [m0, m1, m2, m3, m4] := hE4.other (Ne.symm hgx)
      have hB5 : Below w.heap.size w (w4.setCell ⟨g, 0, none⟩ (.int .u8 236)) := (hB3.then_ b4).setCell (by show w.heap.size ≤ g; omega) _
      have HH := Lib.hid (And.intro hU5 (And.intro hE5 hB5))
      generalize fmP[0] = y2 at g1
      clear hU4 hE4 hc0 hU5 hE5 hB5 hU hE hB3 b4 hgU hsz2 HB2 HN HB0 HR0 HU
      go_wp2_with fail
      obtain ⟨hU5, hE5, hB5⟩ := HH.out
      generalize w4.setCell ⟨g, 0, none⟩ (.int .u8 236) = W5 at *
      have hgU : g < W5.heap.size := (Array.getElem?_eq_some_iff.1 hU5).1
      have hgE : gx < W5.heap.size := (Array.getElem?_eq_some_iff.1 hE5).1
      obtain ⟨d, hd1, hd2⟩ : ∃ d : Bool, decide (leN bs ^ leN fmQ % P = 1 % P) = !d ∧ decide (leN bs % P = 0 % P) = d := ⟨_, ferm1 _, rfl⟩
      apply wp_region_ls (by kernel_rfl) (by kernel_rfl)
      apply ls_el (.tmp 5) hE5 hgE rfl rfl rfl
      simp only [Act.put, List.setIfInBounds_toArray, List.set_cons_succ, List.set_cons_zero]
      apply ls_b32 (.tmp 3) hU5 rfl hgU rfl rfl rfl
      simp only [Act.put, List.setIfInBounds_toArray, List.set_cons_succ, List.set_cons_zero]
      apply ls_call_el (leN bs ^ leN fmQ) 28 #[E5 m0 m1 m2 m3 m4, A32 fmQ] rfl (by intro W; go_simp) (fun W => pow_calls _ _ _ HX.out rfl W)
      intro v1 hv1
      simp only [Act.put, List.setIfInBounds_toArray, List.set_cons_succ, List.set_cons_zero]
      apply ls_call_el 1 11 #[.int .u32 1] rfl (by intro W; go_simp) (fun W => small_calls 1 (by decide) W)
      intro v2 hv2
      simp only [Act.put, List.setIfInBounds_toArray, List.set_cons_succ, List.set_cons_zero]
      apply ls_callx (.bool (!d)) 17 #[v1, v2] rfl (by intro W; go_simp) (fun W => (is_calls _ _ _ _ hv1 hv2 W).mono fun e W' h => ⟨by rw [h.1, hd1], h.2⟩)
      simp only [Act.put, List.setIfInBounds_toArray, List.set_cons_succ, List.set_cons_zero]
      apply ls_el (.tmp 5) hE5 hgE rfl rfl rfl
      simp only [Act.put, List.setIfInBounds_toArray, List.set_cons_succ, List.set_cons_zero]
      apply ls_pure (E5 0 0 0 0 0) rfl (by intro W; go_simp; rfl)
      simp only [Act.put, List.setIfInBounds_toArray, List.set_cons_succ, List.set_cons_zero]
      apply ls_callx (.bool d) 17 #[E5 m0 m1 m2 m3 m4, E5 0 0 0 0 0] rfl (by intro W; go_simp) (fun W => (is_calls _ _ _ _ HX.out IsEl.zero W).mono fun e W' h => ⟨by rw [h.1, hd2], h.2⟩)
      simp only [Act.put, List.setIfInBounds_toArray, List.set_cons_succ, List.set_cons_zero]
      apply ls_pure (.bool true) rfl (by intro W; cases d <;> go_simp)
      simp only [Act.put, List.setIfInBounds_toArray, List.set_cons_succ, List.set_cons_zero]
      apply ls_move (.bool true) (.tmp 33) rfl rfl rfl
      simp only [Act.put, List.setIfInBounds_toArray, List.set_cons_succ, List.set_cons_zero]
      apply ls_el (.tmp 5) hE5 hgE rfl rfl rfl
      simp only [Act.put, List.setIfInBounds_toArray, List.set_cons_succ, List.set_cons_zero]
      apply ls_pure (A32 (List.replicate 32 0)) rfl (by intro W; go_simp; rfl)
      simp only [Act.put, List.setIfInBounds_toArray, List.set_cons_succ, List.set_cons_zero]
      apply ls_call_el (leN bs ^ leN (List.replicate 32 0)) 28 #[E5 m0 m1 m2 m3 m4, A32 (List.replicate 32 0)] rfl (by intro W; go_simp) (fun W => pow_calls _ _ _ HX.out rfl W)
      intro v3 hv3
      simp only [Act.put, List.setIfInBounds_toArray, List.set_cons_succ, List.set_cons_zero]
      apply ls_call_el 1 11 #[.int .u32 1] rfl (by intro W; go_simp) (fun W => small_calls 1 (by decide) W)
      intro v4 hv4
      simp only [Act.put, List.setIfInBounds_toArray, List.set_cons_succ, List.set_cons_zero]
      apply ls_callx (.bool true) 17 #[v3, v4] rfl (by intro W; go_simp) (fun W => (is_calls _ _ _ _ hv3 hv4 W).mono fun e W' h => ⟨by rw [h.1, ferm0], h.2⟩)
      simp only [Act.put, List.setIfInBounds_toArray, List.set_cons_succ, List.set_cons_zero]
      apply ls_pure (.bool true) rfl (by intro W; go_simp)
      simp only [Act.put, List.setIfInBounds_toArray, List.set_cons_succ, List.set_cons_zero]
      apply ls_assign (.bool true) (.tmp 40) rfl rfl rfl
      simp only [Act.put, List.setIfInBounds_toArray, List.set_cons_succ, List.set_cons_zero]
      refine ls_nil (Rs := []) ?_
      intro w6 b6
      have hfin := hB5.then_ b6
      clear hB5 b6 hU5 hE5 hd1 hd2
      go_wp2_with fail
      go_ret
      exact ⟨rfl, hfin⟩
end Go.Proofs.Ytpdoegfmngibgaa
