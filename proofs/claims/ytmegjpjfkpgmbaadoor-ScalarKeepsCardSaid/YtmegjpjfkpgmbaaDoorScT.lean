/- Layer 5: the law that what is handed in stays. -/
import Derived.Test.YtmegjpjfkpgmbaaDoorScN
import Derived.Lib.AppendZeros
import Derived.Maps.AppendAt
import Derived.Deep.RegionHeld3
namespace Go.Proofs.YtmegjpjfkpgmbaaDoor
open Go.ChangeShapes Go.WideShapes Go.ChangeAt Go.RowKit Go.IntWalk
set_option linter.unusedVariables false

theorem zerosT (m : Nat) : Builtin.zeroCells (Value.int .u8 0).cells m = (List.replicate m (Value.int .u8 0)).toArray := by
  apply Array.ext
  · simp [size_zeroCells, Value.cells]
  · intro i h1 h2
    have : Value.cells (.int .u8 0) = #[.int .u8 0] := rfl
    simp [Builtin.zeroCells, this, Nat.mod_one]
theorem RB.front {w : World} {A : Option Addr} {bs zs : List UInt8} (h : RB w A (bs ++ zs)) : RB w A bs := by
  intro k hk
  obtain ⟨b, off, h1, h2, h3⟩ := h k (by simp; omega)
  refine ⟨b, off, h1, h2, h3.trans ?_⟩
  simp [List.getD, List.getElem?_append_left hk]
theorem u8_zeros (bs : List UInt8) (m : Nat) : ((bs ++ List.replicate m 0).map fun (c : UInt8) => Value.int .u8 (c.toNat : Int)) = (bs.map fun (c : UInt8) => Value.int .u8 (c.toNat : Int)) ++ List.replicate m (.int .u8 0) := by
  rw [List.map_append, List.map_replicate]; rfl
/-- 'append(own, make([]byte, m)...)', which is one operation. -/
theorem run_append_zeros_own (w : World) (base : Nat) (ty : TypeId) (v : Value) (bs : List UInt8) (hown : OwnBs base w v bs) (m : Nat) (hlen : bs.length + m ≤ 70368744177664) (hbase : base ≤ w.heap.size) :
    ∃ v' w', (Builtin.append_ #[22, 3] ty #[v, .int .i64 (m : Int)]).run Tryd.prog w = .ok v' w' ∧ OwnBs base w' v' (bs ++ List.replicate m 0) ∧ w.grownBy w' v.ownBlock ∧ ∀ A n c, v = .slice A n c → RB w' A bs := by
  obtain ⟨i0, hi, hz0, hz1, hz2⟩ := info_parts infoU8
  have ht := Tryd.underlying22
  have htn := Tryd.underlying3
  have hwn : IntKind.i64.wrap (m : Int) = (m : Int) := IntWalk.i64_in _ (by omega)
  have hneg : ¬ ((m : Int) < 0) := by omega
  have hw0 : IntKind.i64.wrap (0 : Int) = 0 := by decide
  have h48i : ¬ (281474976710656 < (m : Int) * (i0.bytes : Int)) := by rw [hz2]; omega
  have hml : (bs ++ List.replicate m (0 : UInt8)).length = bs.length + m := by simp
  have hmi : ((m : Int)).toNat = m := by simp
  have hold : ∀ (o : Obj) (k : Nat), k < w.heap.size → (w.drew.alloc o).heap[k]? = w.heap[k]? := fun o k hk => heap_alloc_old w.drew o hk
  rcases hown.2 with ⟨rfl, h0⟩ | ⟨g, cap, cur, rfl, hbg, hg, hnc, hcm, hcs, htake⟩
  · obtain rfl : bs = [] := List.eq_nil_of_length_eq_zero h0
    by_cases hm : m = 0
    · subst hm
      refine ⟨.slice none 0 0, w, ?_, hown, ⟨rfl, rfl, rfl, Nat.le_refl _, fun _ _ _ => rfl⟩, fun A n c _ k hk => absurd hk (by simp)⟩
      simp [Builtin.append_, run_underlying ht, run_underlying htn, sizeOf, typeInfo, hi, asInt, asIntOf, hw0]
    · have hr := Lib.run_append_nil_zeros (P := Tryd.prog) w 22 3 ty 5 i0 (.int .u8 0) .i64 .i64 ht htn hi hz0 m (by omega) (by omega) (by omega) (by rw [hz2]; omega)
      have hge := grownCap_ge w m 0 5
      refine ⟨_, _, hr, ⟨by simp, .inr ⟨w.heap.size, grownCap w m 0 5, Builtin.zeroCells (Value.int .u8 0).cells m ++ Builtin.zeroCells (Value.int .u8 0).cells (grownCap w m 0 5 - m), by rw [hml]; simp, hbase, heap_alloc_new w.drew _, by rw [hml]; simp; exact hge, grownCap_le_maxLen w m 0 _ (by unfold maxLen; omega), ?_, ?_⟩⟩, ⟨rfl, rfl, rfl, by simp, fun k hk _ => hold _ k hk⟩, fun A n c _ k hk => absurd hk (by simp)⟩
      · rw [Array.size_append, size_zeroCells, size_zeroCells]
        show m * 1 + (grownCap w m 0 5 - m) * 1 = _
        omega
      · rw [hml, zerosT, zerosT, u8_zeros]
        simp
  · by_cases hroom : bs.length + m ≤ cap
    · have hfit : bs.length + (List.replicate m (Value.int .u8 0)).length ≤ cur.size := by rw [hcs]; simp; omega
      have hst := run_storeCells_at Tryd.prog g bs.length 5 (List.replicate m (Value.int .u8 0)) 0 cur w hg (by simpa using hfit) (fun v hv => by rw [List.eq_of_mem_replicate hv]; rfl)
      simp only [Nat.add_zero] at hst
      have hnew : OwnBs base (w.setRow g (cur.toList.take bs.length ++ List.replicate m (Value.int .u8 0) ++ cur.toList.drop (bs.length + (List.replicate m (Value.int .u8 0)).length)).toArray) (.slice (some ⟨g, 0, none⟩) (bs.length + m) cap) (bs ++ List.replicate m 0) := by
        refine ⟨by simp, .inr ⟨g, cap, (cur.toList.take bs.length ++ List.replicate m (Value.int .u8 0) ++ cur.toList.drop (bs.length + (List.replicate m (Value.int .u8 0)).length)).toArray, by rw [hml], hbg, setRow_heap w g cur _ _ _ hg, by rw [hml]; exact hroom, hcm, ?_, ?_⟩⟩
        · simp only [List.size_toArray, List.length_append, List.length_take, List.length_drop, Array.length_toList, List.length_replicate]
          omega
        · rw [Nat.mul_one] at htake
          rw [hml, htake, u8_zeros, Nat.mul_one]
          exact List.take_left' (by simp)
      refine ⟨.slice (some ⟨g, 0, none⟩) (bs.length + m) cap, _, ?_, hnew, ⟨rfl, rfl, rfl, by simp, fun k _ hk => setRow_other w g k _ (fun e => hk (by simp [Value.ownBlock, e]))⟩, fun A n c he => ?_⟩
      · by_cases hm : m = 0
        · subst hm
          have hroom0 : bs.length ≤ cap := hroom
          rw [List.replicate_zero] at hst ⊢
          simp [Builtin.append_, run_underlying ht, run_underlying htn, sizeOf, typeInfo, hi, asInt, asIntOf, hw0, hroom0, Addr.add_lit, hz1]
          simp at hst
          simp [hst]
        · simp [Builtin.append_, run_underlying ht, run_underlying htn, sizeOf, typeInfo, zeroValue, hi, hz0, asInt, asIntOf, hwn, hneg, h48i, hm, hroom, Addr.add_lit, hz1, zerosT, hst]
      · cases he
        obtain ⟨A4, n4, c4, he4, hrb, _⟩ := hnew.form
        cases he4
        exact hrb.front
    · have hn0 : m ≠ 0 := by omega
      have h63' : ¬ (9223372036854775807 < ((bs.length : Int) + (m : Int))) := by omega
      have h48' : ¬ (281474976710656 < Builtin.nextslicecap (bs.length + m) cap * i0.bytes) := by
        have := growslice_fits (need := bs.length + m) (old := cap) (bytes := i0.bytes) (by omega) (by rw [hz2]; omega)
        omega
      have hfo := run_firstCells_some (P := Tryd.prog) w.drew i0.size bs.length ⟨g, 0, none⟩ bs.length cap (bs.map fun (c : UInt8) => Value.int .u8 c.toNat) (by rw [hz1]; simp) (World.ownsRow.cells hown (g := g) rfl)
      rw [hz1] at hfo
      have hr : (Builtin.append_ #[22, 3] ty #[.slice (some ⟨g, 0, none⟩) bs.length cap, .int .i64 (m : Int)]).run Tryd.prog w =
          .ok (.slice (some ⟨w.heap.size, 0, none⟩) (bs.length + m) (grownCap w (bs.length + m) cap 5))
            (w.drew.alloc (.cells ((bs.map fun (c : UInt8) => Value.int .u8 c.toNat).toArray ++ Builtin.zeroCells (Value.int .u8 0).cells m ++ Builtin.zeroCells (Value.int .u8 0).cells (grownCap w (bs.length + m) cap 5 - (bs.length + m))) 5)) := by
        simp [Builtin.append_, run_underlying ht, run_underlying htn, sizeOf, typeInfo, zeroValue, hi, hz0, asInt, asIntOf, hwn, hneg, h48i, hn0, hroom, h63', h48', hz1, Question.forced, hfo, newRow, grownCap]
      have hge := grownCap_ge w (bs.length + m) cap 5
      refine ⟨_, _, hr, ⟨by simp, .inr ⟨w.heap.size, grownCap w (bs.length + m) cap 5, ((bs.map fun (c : UInt8) => Value.int .u8 c.toNat).toArray ++ Builtin.zeroCells (Value.int .u8 0).cells m ++ Builtin.zeroCells (Value.int .u8 0).cells (grownCap w (bs.length + m) cap 5 - (bs.length + m))), by rw [hml], hbase, heap_alloc_new w.drew _, by rw [hml]; exact hge, grownCap_le_maxLen w _ _ _ (by unfold maxLen; omega), ?_, ?_⟩⟩, ⟨rfl, rfl, rfl, by simp, fun k hk _ => hold _ k hk⟩, fun A n c he => ?_⟩
      rotate_left 2
      · obtain ⟨A4, n4, c4, he4, hrb, _⟩ := hown.form
        rw [he4] at he
        cases he
        exact hrb.below (((Below.refl w.heap.size w).drewN 1).alloc (Nat.le_refl _) _)
      · rw [Array.size_append, Array.size_append, size_zeroCells, size_zeroCells]
        show (bs.map fun (c : UInt8) => Value.int .u8 (c.toNat : Int)).toArray.size + m * 1 + (grownCap w (bs.length + m) cap 5 - (bs.length + m)) * 1 = _
        simp
        omega
      · rw [hml, zerosT, zerosT, u8_zeros, Nat.mul_one]
        simp only [List.append_toArray, List.toList_toArray]
        exact List.take_left' (by simp)
/-- .. at a step of a region that draws its order -/
theorem step_append_zeros {ops : Array Oper} {o : Oper} {a : Act} {K : Act → World → Prop} {Q : Exit → Act → World → Prop} {E : Prop} {W : World} (s x : Operand)
    (ho : o.op = .call { callee := .builtin .append, args := #[s, x], argTypes := #[22, 3] })
    (base : Nat) (v : Value) (bs : List UInt8) (hs : a.eval s = v) (hown : OwnBs base W v bs) (m : Nat) (hx : a.eval x = .int .i64 (m : Int)) (hw : Region.wanted o (yielded ops a.tmps) = true)
    (hlen : bs.length + m ≤ 70368744177664) (hbase : base ≤ W.heap.size)
    (h : ∀ v' w', OwnBs base w' v' (bs ++ List.replicate m 0) → W.grownBy w' v.ownBlock → (∀ A n c, v = .slice A n c → RB w' A bs) → K (a.put o.dst v') w') :
    if Region.wanted o (yielded ops a.tmps) = true then Oper.wp Tryd.prog o a W K Q else E := by
  rw [if_pos hw]
  obtain ⟨v', w', hr, h1, h2, h3⟩ := run_append_zeros_own W base o.type v bs hown m hlen hbase
  exact Lib.wp_append_run W s x _ _ ho _ _ hs hx v' w' hr (h v' w' h1 h2 h3)
theorem leN_zeros (bs : List UInt8) (m : Nat) : leN (bs ++ List.replicate m 0) = leN bs := by
  rw [leN_app]
  have : ∀ k, leN (List.replicate k 0) = 0 := by
    intro k
    induction k with
    | zero => rfl
    | succ k ih => rw [List.replicate_succ, leN, ih]; rfl
  rw [this, Nat.mul_zero, Nat.add_zero]
def KeS (w : World) (gx : Nat) (dv : List Value) (A2 A : Option Addr) (bs : List UInt8) (W : World) : Prop := Blk W gx 23 dv ∧ Tab W ∧ Below w.heap.size w W ∧ RB W A2 bs ∧ RB W A bs
def KeL (gx : Nat) (dv : List Value) (A2 A : Option Addr) (n2 c2 n c : Nat) (bs : List UInt8) (W : World) : Prop :=
  W.rangeAt gx 0 dv ∧ (convert 22 9 (.slice A2 n2 c2)).run Tryd.prog W = .ok (.string ⟨bs.toArray⟩) W ∧ (convert 22 9 (.slice A n c)).run Tryd.prog W = .ok (.string ⟨bs.toArray⟩) W
theorem KeS.out {w W : World} {gx : Nat} {dv : List Value} {A2 A : Option Addr} {bs : List UInt8} (h : KeS w gx dv A2 A bs W) {n2 n : Nat} (hn2 : Hid (n2 = bs.length)) (hn : Hid (n = bs.length)) (c2 c : Nat) : KeL gx dv A2 A n2 c2 n c bs W :=
  ⟨h.1.rng, run_str_rb W A2 n2 c2 bs h.2.2.2.1 hn2, run_str_rb W A n c bs h.2.2.2.2 hn⟩
theorem KeS.later {w W W' : World} {gx : Nat} {dv : List Value} {A2 A : Option Addr} {bs : List UInt8} (h : KeS w gx dv A2 A bs W) (b : Below W.heap.size W W') : KeS w gx dv A2 A bs W' := ⟨h.1.later b, h.2.1.later b, h.2.2.1.then_ b, h.2.2.2.1.below b, h.2.2.2.2.below b⟩
theorem KeS.row {w W W' : World} {gx : Nat} {dv : List Value} {A2 A : Option Addr} {n2 c2 : Nat} {bs : List UInt8} (h : KeS w gx dv A2 A bs W) (hT0 : Tab w) (hr0 : RB w A bs) (hown : OwnBs w.heap.size W (.slice A2 n2 c2) bs) (hg : W.grownBy W' (Value.slice A2 n2 c2).ownBlock) (hr : RB W' A2 bs) : KeS w gx dv A2 A bs W' := by
  have hb := h.2.2.1.grown hg h.2.2.1.size (fun k hk => (hown.lt k hk).1)
  exact ⟨(hg.block gx h.1.lt (hown.ne h.1 (by intro c f h; cases h))).trans h.1, hT0.later hb, hb, hr, hr0.below hb⟩
set_option maxRecDepth 100000 in
set_option maxHeartbeats 8000000 in
theorem scalarKeeps_walk {w : World} (A : Option Addr) (n c : Nat) (bs : List UInt8) (hr : RB w A bs) (hn : Hid (n = bs.length)) (hc : n ≤ c) (a1 : Int) (wa1 : (Lit.int .i64 a1).wf = true) (hT : Tab w) :
    Calls Tryd.prog 7 #[.slice A n c, .int .i64 a1] w fun e w' => e = .returned (.bool true) ∧ Below w.heap.size w w' := by
  have H0 := Lib.hid (And.intro hT hr)
  have HT0 := Lib.hid hT
  have HR0 := Lib.hid hr
  clear hT hr
  go_enter Tryd.func7, Tryd.ntmps7
  go_wp2_with fail
  refine (alive_calls _ H0.out.1).mono ?_
  rintro e w1 ⟨rfl, b1⟩
  have H1 := Lib.hid (And.intro (H0.out.1.later b1) (And.intro (H0.out.2.below b1) b1))
  clear b1 H0
  by_cases hbig : 1024 < n ∨ a1 < 0 ∨ 100 < a1
  · have hd : (decide ((1024 : Int) < (n : Int)) || decide (a1 < 0) || decide (100 < a1)) = true := by simp; omega
    go_wp2_with fail
    all_goals (go_ret; exact ⟨rfl, H1.out.2.2⟩)
  · have h1 : decide ((1024 : Int) < (n : Int)) = false := by simp; omega
    have h2 : decide (a1 < 0) = false := by simp; omega
    have h3 : decide (100 < a1) = false := by simp; omega
    have hown0 : OwnBs w.heap.size (w1.alloc (.cells #[] 5)) (.slice (some ⟨w1.heap.size, 0, none⟩) 0 0) [] := OwnBs.made _ _ #[] 0 H1.out.2.2.size (by decide) rfl
    have b1' : Below w.heap.size w (w1.alloc (.cells #[] 5)) := H1.out.2.2.alloc H1.out.2.2.size _
    have hrb1 : RB (w1.alloc (.cells #[] 5)) A bs := H1.out.2.1.below (Below.alloc (Below.refl w1.heap.size w1) (Nat.le_refl _) _)
    go_upto_region 6 with (at_builtin; refine wpList_append_rb rfl (.tmp 20) (.tmp 21) rfl w.heap.size _ _ rfl hown0 A n c bs rfl hrb1 hn (by simp; omega) b1'.size ?_; intro v2 w2 hown2 hgrow2)
    have b2 : Below w.heap.size w w2 := b1'.grown hgrow2 b1'.size (fun k hk => (hown0.lt k hk).1)
    rw [List.nil_append] at hown2
    obtain ⟨A2, n2, c2, rfl, hrb2, hn2⟩ := hown2.form
    have H2 := Lib.hid (And.intro hown2 (And.intro hrb2 (And.intro b2 (H1.out.2.1.below (Below.alloc (Below.refl w1.heap.size w1) (Nat.le_refl _) (.cells #[] 5))))))
    have hrbA : RB w2 A bs := by
      intro k hk
      obtain ⟨b, off, e, hlt, hc2⟩ := HR0.out k hk
      exact ⟨b, off, e, Nat.lt_of_lt_of_le hlt b2.size, (b2.cell (p := ⟨b, off + k, none⟩) hlt).trans hc2⟩
    have HRA := Lib.hid hrbA
    have HT2 := Lib.hid (HT0.out.later b2)
    clear hown0 hgrow2 b1' hown2 hrb2 b2 hrb1 hrbA
    go_wp2_with fail
    refine (rest_calls A2 n2 c2 bs hn2 (by have := hn2.out; have := hn.out; omega) _ HT2.out H2.out.2.1).mono ?_
    rintro e w3 ⟨rfl, b3⟩
    obtain ⟨th, hbk, hbl⟩ := laid32 w3 (leB 32 (leN bs % LO)) (leB_len _ _)
    have H3 := Lib.hid (And.intro (H2.out.1.below (b3.then_ hbl) (Nat.le_refl _)) (And.intro (HRA.out.below (b3.then_ hbl)) (And.intro (H2.out.2.2.1.then_ (b3.then_ hbl)) hbk)))
    have HTH := Lib.hid th
    have HS := Lib.hid (show (Tryd.prog.info? 23).map (·.size) = some (u8b (leB 32 (leN bs % LO))).toArray.size by simpa using size32u _ (leB_len 32 (leN bs % LO)))
    have HO := Lib.hid (one8b (leB 32 (leN bs % LO)))
    unfold A32
    obtain ⟨dv, hdv⟩ : ∃ d, u8b (leB 32 (leN bs % LO)) = d := ⟨_, rfl⟩
    have HDV := Lib.hid hdv
    rw [hdv] at HTH HS HO H3 ⊢
    clear th hbk hbl b3 H2 HRA hdv
    go_upto_region 7 with (refine wpList_store_mid rfl 23 _ _ rfl w3.heap.size 0 dv.toArray rfl rfl HTH.out HS.out HO.out ?_)
    obtain ⟨gx, hgx⟩ : ∃ g, w3.heap.size = g := ⟨_, rfl⟩
    rw [hgx] at H3 ⊢
    have hT3 := HT0.out.later H3.out.2.2.1
    refine wp_gen (fun W => OwnBs w.heap.size W (.slice A2 n2 c2) bs ∧ RB W A bs ∧ Blk W gx 23 dv ∧ Tab W ∧ Below w.heap.size w W) ⟨H3.out.1, H3.out.2.1, H3.out.2.2.2, hT3, H3.out.2.2.1⟩ ?_
    rintro W3 ⟨hown3, hrb3, hbk3, hT3', hbl3⟩
    obtain ⟨m, hm⟩ : ∃ m : Nat, a1 = (m : Int) := ⟨a1.toNat, by omega⟩
    subst hm
    have hm100 : m ≤ 100 := by omega
    have hlen3 : bs.length + m ≤ 70368744177664 := by have := hn.out; omega
    have hrb2 : RB W3 A2 bs := by
      obtain ⟨A4, n4, c4, he, hrb, hn4⟩ := hown3.form
      cases he
      exact hrb
    have hk3 : KeS w gx dv A2 A bs W3 := ⟨hbk3, hT3', hbl3, hrb2, hrb3⟩
    have hrr : ∀ (A4 : Option Addr) (n4 c4 : Nat) (W : World), KeS w gx dv A2 A bs W → RB W A4 (bs ++ List.replicate m 0) → Hid (n4 = (bs ++ List.replicate m 0).length) → Calls Tryd.prog 9 #[.slice A4 n4 c4] W fun e w' => e = .returned (.agg dv.toArray) ∧ Below W.heap.size W w' := fun A4 n4 c4 W hk hr h4 => by
      have h := rest_calls A4 n4 c4 _ h4 (by have := h4.out; simp at this; omega) W hk.2.1 hr
      unfold BPost at h
      rw [leN_zeros] at h
      unfold A32 at h
      rwa [HDV.out] at h
    have gR := fun x y W => guard_bytes .eql (leB 32 (leN bs % LO)) (leB 32 (leN bs % LO)) x y W
    have qR := fun W => eq_bytes (leB 32 (leN bs % LO)) (leB 32 (leN bs % LO)) (leB_len _ _) (leB_len _ _) W
    rw [beq_self_eq_true] at qR
    unfold A32 at gR qR
    rw [HDV.out] at gR qR
    have hsz : (Tryd.prog.info? 23).map (·.size) = some dv.length := by rw [← HDV.out]; exact size32u _ (leB_len _ _)
    have hun := Tryd.underlying23
    have HK3 : Hid (KeS w gx dv A2 A bs W3.drew) := Lib.hid (hk3.later ((Below.refl _ _).drewN 1))
    have HOWN := Lib.hid (show OwnBs w.heap.size W3.drew (.slice A2 n2 c2) bs from hown3.drewN 1)
    have HL : ∀ W, KeS w gx dv A2 A bs W → KeL gx dv A2 A n2 c2 n c bs W := fun W h => h.out hn2 hn c2 c
    have HKL := Lib.hid HL
    clear HTH HS HO H3 hgx hT3 hown3 hrb3 hrb2 hk3 hbk3 hT3' hbl3 HDV h1 h2 h3 HL
    go_wp2_with fail
    exact (by
      go_region_held3 (fun W => W.rangeAt gx 0 dv ∧ (convert 22 9 (.slice A2 n2 c2)).run Tryd.prog W = .ok (.string ⟨bs.toArray⟩) W ∧ (convert 22 9 (.slice A n c)).run Tryd.prog W = .ok (.string ⟨bs.toArray⟩) W)
        (first
          | (exact HKL.out _ HK3.out)
          | (exact HKL.out _ hk5)
          | (exact HKL.out _ hk6))
        ((first
          | (go_at_call 9; (with_reducible refine (hrr A4 n4 c4 w5 hk5 hrb4 hn4).mono ?_); rintro e w6 ⟨rfl, b6⟩; have hk6 := hk5.later b6)
          | (refine step_append_zeros _ _ (by rfl) w.heap.size _ bs (by rfl) HOWN.out m (by rfl) (by rfl) hlen3 HK3.out.2.2.1.size ?_; intro v5 w5 hown5 hgrow5 hrb5; have hk5 := HK3.out.row HT0.out HR0.out HOWN.out hgrow5 (hrb5 _ _ _ rfl); obtain ⟨A4, n4, c4, rfl, hrb4, hn4⟩ := hown5.form)))
      all_goals (
        have HB := Lib.hid hk6.2.2.1
        clear hk5 hk6 b6
        go_wp2_with fail
        go_ret
        exact ⟨rfl, HB.out⟩))
end Go.Proofs.YtmegjpjfkpgmbaaDoor
