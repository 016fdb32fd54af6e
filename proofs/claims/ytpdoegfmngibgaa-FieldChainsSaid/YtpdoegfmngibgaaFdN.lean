/- Layer 4: what the laws' walks share. -/
import Derived.Test.YtpdoegfmngibgaaFdK
import Derived.Test.YtpdoegfmngibgaaLg
namespace Go.Proofs.Ytpdoegfmngibgaa
open Go.ChangeShapes Go.WideShapes Go.ChangeAt Go.RowKit Go.IntWalk
set_option linter.unusedVariables false

/-- Behind k rounds. -/
def fmB (k : Nat) : List UInt8 := List.replicate k 255 ++ List.replicate (31 - k) 0 ++ [127]
theorem fm_step : ∀ k : Fin 31, (fmB k.val).set k.val 255 = fmB (k.val + 1) := by decide +kernel
theorem fm_len (k : Nat) (h : k ≤ 31) : (fmB k).length = 32 := by simp [fmB]; omega
def fmP : List UInt8 := (fmB 31).set 0 237
def fmQ : List UInt8 := fmP.set 0 236
theorem fmP_val : leN fmP = P := by decide +kernel
theorem fmQ_val : leN fmQ = P - 1 := by decide +kernel
theorem size32' (bs : List UInt8) (h : bs.length = 32) : (Try.prog.info? 22).map (·.size) = some (u8s bs).length := by rw [show (u8s bs).length = 32 by simp [u8s, h]]; exact size32
theorem one8 (bs : List UInt8) : (u8s bs).toArray.all (·.oneCell') = true := by
  apply all_oneCell_toArray
  intro v hv
  obtain ⟨y, _, rfl⟩ := List.mem_map.1 hv
  rfl
theorem UBlk.rng {w : World} {g : Nat} {bs : List UInt8} (h : UBlk w g bs) : w.rangeAt g 0 (u8s bs) := h.range rfl
theorem UBlk.later {w w1 : World} {g : Nat} {bs : List UInt8} (h : UBlk w g bs) (b : Below w.heap.size w w1) : UBlk w1 g bs := (b.block g (Array.getElem?_eq_some_iff.1 h).1).trans h
theorem EBlk.later {w w1 : World} {g : Nat} {bs : List Nat} (h : EBlk w g bs) (b : Below w.heap.size w w1) : EBlk w1 g bs := (b.block g (Array.getElem?_eq_some_iff.1 h).1).trans h
theorem size5 : (Try.prog.info? 27).map (·.size) = some 5 := by kernel_rfl
theorem EBlk.rng {w : World} {g : Nat} {ls : List Nat} (h : EBlk w g ls) : w.rangeAt g 0 (ls.map fun (n : Nat) => Value.int .u64 (n : Int)) := by
  intro j v hv
  unfold EBlk at h
  rw [Nat.zero_add, cell_of_row _ _ _ _ _ _ h]; simpa using hv
theorem prmP : Prm P := prm25519
theorem fermP (n : Nat) : n ^ P % P = n % P := prmP.fermat n
theorem ferm1 (n : Nat) : decide (n ^ leN fmQ % P = 1 % P) = !decide (n % P = 0 % P) := by
  have h1 : 1 % P = 1 := by decide +kernel
  have h2 : 0 < P - 1 := by decide +kernel
  rw [fmQ_val, h1, Nat.zero_mod]
  by_cases h : n % P = 0
  · have hp : n ^ (P - 1) % P = 0 := by rw [Nat.pow_mod, h, Nat.zero_pow h2, Nat.zero_mod]
    rw [hp, h]; rfl
  · have hp := prmP.fermat1 (a := n) (fun hd => h (Nat.mod_eq_zero_of_dvd hd))
    rw [hp, decide_eq_false h, decide_eq_true rfl]; rfl
theorem leN_zeros : leN (List.replicate 32 0) = 0 := by decide +kernel
theorem ferm0 (n : Nat) : decide (n ^ leN (List.replicate 32 0) % P = 1 % P) = true := by rw [leN_zeros, Nat.pow_zero, decide_eq_true rfl]
section
variable {P : Program} {ops : Array Oper} {C : World → Prop} {W0 : World} {Q : Act → Prop} {o : Oper} {rest : List Oper} {Rs : List (Value → Prop)} {a : Act}
theorem ls_el {g m0 m1 m2 m3 m4 : Nat} (x : Operand) (hE : EBlk W0 g [m0, m1, m2, m3, m4]) (hb : g < W0.heap.size) (ho : o.op = .load 27 x) (hw : Region.wanted o (yielded ops a.tmps) = true) (hx : a.eval x = .pointer (some ⟨g, 0, none⟩))
    (h2 : wpLs Try.prog ops (fun w' => Below W0.heap.size W0 w') Q rest Rs (a.put o.dst (E5 m0 m1 m2 m3 m4))) : wpLs Try.prog ops (fun w' => Below W0.heap.size W0 w') Q (o :: rest) ((· = E5 m0 m1 m2 m3 m4) :: Rs) a :=
  ls_load 27 x ho g 0 _ _ hE.rng hb Try.underlying27 rfl size5 hw hx h2
theorem ls_b32 {g : Nat} {bs : List UInt8} (x : Operand) (hU : UBlk W0 g bs) (hl : bs.length = 32) (hb : g < W0.heap.size) (ho : o.op = .load 22 x) (hw : Region.wanted o (yielded ops a.tmps) = true) (hx : a.eval x = .pointer (some ⟨g, 0, none⟩))
    (h2 : wpLs Try.prog ops (fun w' => Below W0.heap.size W0 w') Q rest Rs (a.put o.dst (A32 bs))) : wpLs Try.prog ops (fun w' => Below W0.heap.size W0 w') Q (o :: rest) ((· = A32 bs) :: Rs) a :=
  ls_load 22 x ho g 0 _ _ hU.rng hb Try.underlying22 rfl (size32' bs hl) hw hx h2
theorem ls_call_el (r : Nat) (f : FuncId) (args : Array Value) (hw : Region.wanted o (yielded ops a.tmps) = true) (he : ∀ W, (execOp a.eval o).run P W = .ok (.enter f args) W)
    (hc : ∀ W, Calls P f args W (ElPost r W)) (h2 : ∀ v, IsEl v r → wpLs P ops (fun w' => Below W0.heap.size W0 w') Q rest Rs (a.put o.dst v)) :
    wpLs P ops (fun w' => Below W0.heap.size W0 w') Q (o :: rest) ((fun v => IsEl v r) :: Rs) a :=
  ls_call _ f args hw he hc h2
end
theorem litZ127 : A32 (fmB 0) = .agg #[.int .u8 0, .int .u8 0, .int .u8 0, .int .u8 0, .int .u8 0, .int .u8 0, .int .u8 0, .int .u8 0, .int .u8 0, .int .u8 0, .int .u8 0, .int .u8 0, .int .u8 0, .int .u8 0, .int .u8 0, .int .u8 0, .int .u8 0, .int .u8 0, .int .u8 0, .int .u8 0, .int .u8 0, .int .u8 0, .int .u8 0, .int .u8 0, .int .u8 0, .int .u8 0, .int .u8 0, .int .u8 0, .int .u8 0, .int .u8 0, .int .u8 0, .int .u8 127] := rfl
theorem setCells_blk {g : Nat} {T : TypeId} {fr : Nat × Nat} : ∀ (vs : List Value) (o : Nat) (W : World) (cs : List Value), W.heap[g]? = some (.cells cs.toArray T fr) → o + vs.length ≤ cs.length →
    (W.setCells g o vs).heap[g]? = some (.cells (cs.take o ++ vs ++ cs.drop (o + vs.length)).toArray T fr)
  | [], o, W, cs, h, _ => by simpa [World.setCells] using h
  | v :: vs, o, W, cs, h, hl => by
    have hlt : o < cs.length := by simp at hl; omega
    have h1 : (W.setCell ⟨g, o, none⟩ v).heap[g]? = some (.cells (cs.set o v).toArray T fr) := by
      simp [World.setCell, Array.getElem?_modify, h]
    have h2 := setCells_blk vs (o + 1) (W.setCell ⟨g, o, none⟩ v) (cs.set o v) h1 (by simp at hl ⊢; omega)
    have hto : (cs.take o).length = o := by simp; omega
    have e : ((cs.set o v).take (o + 1) ++ vs ++ (cs.set o v).drop (o + 1 + vs.length)) = cs.take o ++ (v :: vs) ++ cs.drop (o + (v :: vs).length) := by
      have d1 : (cs.take o).take (o + 1) = cs.take o := List.take_of_length_le (by omega)
      have d2 : (cs.take o).drop (o + 1 + vs.length) = [] := List.drop_of_length_le (by omega)
      rw [List.set_eq_take_append_cons_drop, if_pos hlt, List.take_append, List.drop_append, hto, d1, d2, show o + 1 - o = 1 by omega, show o + 1 + vs.length - o = vs.length + 1 by omega]
      simp [Nat.add_comm, Nat.add_left_comm]
    rw [e] at h2
    exact h2
theorem UBlk.setAll {W : World} {g : Nat} {bs cs : List UInt8} (h : UBlk W g bs) (hl : bs.length = cs.length) : UBlk (W.setCells g 0 (u8s cs)) g cs := by
  have := setCells_blk (u8s cs) 0 W (u8s bs) h (by simp [u8s, hl])
  have hz : (u8s bs).length = 0 + (u8s cs).length := by simp [u8s, hl]
  rw [List.take_zero, List.nil_append, ← hz, List.drop_length, List.append_nil] at this
  exact this
theorem UBlk.new0 (w : World) : UBlk (w.alloc (.cells #[.int .u8 0, .int .u8 0, .int .u8 0, .int .u8 0, .int .u8 0, .int .u8 0, .int .u8 0, .int .u8 0, .int .u8 0, .int .u8 0, .int .u8 0, .int .u8 0, .int .u8 0, .int .u8 0, .int .u8 0, .int .u8 0, .int .u8 0, .int .u8 0, .int .u8 0, .int .u8 0, .int .u8 0, .int .u8 0, .int .u8 0, .int .u8 0, .int .u8 0, .int .u8 0, .int .u8 0, .int .u8 0, .int .u8 0, .int .u8 0, .int .u8 0, .int .u8 0] 22)) w.heap.size (List.replicate 32 0) := heap_alloc_new w _
theorem setCells_other {g g2 : Nat} (hne : g2 ≠ g) : ∀ (vs : List Value) (o : Nat) (W : World), (W.setCells g2 o vs).heap[g]? = W.heap[g]?
  | [], o, W => rfl
  | v :: vs, o, W => by
    have h := setCells_other hne vs (o + 1) (W.setCell ⟨g2, o, none⟩ v)
    have h2 : (W.setCell ⟨g2, o, none⟩ v).heap[g]? = W.heap[g]? := by simp [World.setCell, Array.getElem?_modify, hne]
    exact h.trans h2
theorem EBlk.setAll {W : World} {g : Nat} {ls ms : List Nat} (h : EBlk W g ls) (hl : ls.length = ms.length) : EBlk (W.setCells g 0 (ms.map fun (n : Nat) => Value.int .u64 (n : Int))) g ms := by
  have := setCells_blk (ms.map fun (n : Nat) => Value.int .u64 (n : Int)) 0 W (ls.map fun (n : Nat) => Value.int .u64 (n : Int)) h (by simp [hl])
  have hz : (ls.map fun (n : Nat) => Value.int .u64 (n : Int)).length = 0 + (ms.map fun (n : Nat) => Value.int .u64 (n : Int)).length := by simp [hl]
  rw [List.take_zero, List.nil_append, ← hz, List.drop_length, List.append_nil] at this
  exact this
theorem EBlk.setFar {W : World} {g g2 : Nat} {ls : List Nat} (h : EBlk W g ls) (hne : g2 ≠ g) (vs : List Value) : EBlk (W.setCells g2 0 vs) g ls := (setCells_other hne vs 0 W).trans h
theorem EBlk.there {w : World} {g n : Nat} (h : EBlk w g [0, 0, 0, 0, 0]) (hn : n = 5) : w.there g 0 n := by
  intro j hj
  have hj2 : j < 5 := by omega
  unfold EBlk at h
  rw [Nat.zero_add]
  refine ⟨?_, by simp [World.frozen?, h]⟩
  rw [cell_of_row _ _ _ _ _ _ h]; simp [hj2]
section
variable {ops : Array Oper} {w0 : World} {Lq : Gh → Act → Prop} {o : Oper} {rest : List Oper} {kds : List Kd} {s : Gh} {a : Act}
theorem lg_b32 {g : Nat} {bs : List UInt8} (x : Operand) (hU : UBlk w0 g bs) (hl : bs.length = 32) (hb : g < w0.heap.size) (ho : o.op = .load 22 x) (hw : Region.wanted o (yielded ops a.tmps) = true) (hx : a.eval x = .pointer (some ⟨g, 0, none⟩))
    (h2 : wpG Try.prog ops w0 Lq rest kds s (a.put o.dst (A32 bs))) : wpG Try.prog ops w0 Lq (o :: rest) (.rel (· = A32 bs) :: kds) s a :=
  lg_load 22 x ho g 0 _ _ hU.rng hb Try.underlying22 rfl (size32' bs hl) hw hx h2
theorem lg_call_el (r : Nat) (f : FuncId) (args : Array Value) (hw : Region.wanted o (yielded ops a.tmps) = true) (he : ∀ W, (execOp a.eval o).run Try.prog W = .ok (.enter f args) W)
    (hc : ∀ W, Calls Try.prog f args W (ElPost r W)) (h2 : ∀ v, IsEl v r → wpG Try.prog ops w0 Lq rest kds s (a.put o.dst v)) : wpG Try.prog ops w0 Lq (o :: rest) (.rel (fun v => IsEl v r) :: kds) s a :=
  lg_call _ f args hw he hc h2
end
end Go.Proofs.Ytpdoegfmngibgaa
