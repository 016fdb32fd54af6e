/- Texts put together: EcE JgD JgE RdA. -/
import Derived.Test.YtkbcbikilgcckaaGreatDoorZfbe618e092
import Derived.Test.YtkbcbikilgcckaaGreatDoorZae125c35ba
import Derived.Test.YtkbcbikilgcckaaGreatDoorZd628eea61e
import Derived.Test.YtkbcbikilgcckaaGreatDoorZ3ff1f1dbf5
import Derived.Test.YtkbcbikilgcckaaGreatDoorZb7a4c958af
import Derived.Test.YtkbcbikilgcckaaGreatDoorZ743de5d206
import Derived.Test.YtkbcbikilgcckaaGreatDoorZb913a2313a
import Derived.Test.YtkbcbikilgcckaaGreatDoorZ3b60d505ed
namespace Go.Proofs.YtkbcbikilgcckaaGreatDoor
open Go.ChangeShapes Go.WideShapes Go.ChangeAt Go.RowKit Go.IntWalk
set_option linter.unusedVariables false
set_option maxRecDepth 100000

theorem sless_irr : ∀ a : List UInt8, Op.bytesLess a a = false
  | [] => rfl
  | c :: a => by simp [Op.bytesLess, sless_irr a]
theorem sless_trans : ∀ {a b c : List UInt8}, Op.bytesLess a b = true → Op.bytesLess b c = true → Op.bytesLess a c = true
  | _, [], _, h, _ => by cases ‹List UInt8› <;> simp [Op.bytesLess] at h
  | [], y :: b, [], _, h2 => by simp [Op.bytesLess] at h2
  | [], y :: b, z :: c, _, _ => by simp [Op.bytesLess]
  | x :: a, y :: b, [], _, h2 => by simp [Op.bytesLess] at h2
  | x :: a, y :: b, z :: c, h1, h2 => by
    simp only [Op.bytesLess, Bool.or_eq_true, Bool.and_eq_true, decide_eq_true_eq, beq_iff_eq] at *
    rcases h1 with h1 | ⟨rfl, h1⟩
    · rcases h2 with h2 | ⟨rfl, h2⟩
      · exact .inl (UInt8.lt_trans h1 h2)
      · exact .inl h1
    · rcases h2 with h2 | ⟨rfl, h2⟩
      · exact .inl h2
      · exact .inr ⟨rfl, sless_trans h1 h2⟩
theorem sless_tot : ∀ a b : List UInt8, Op.bytesLess a b = true ∨ a = b ∨ Op.bytesLess b a = true
  | [], [] => .inr (.inl rfl)
  | [], _ :: _ => .inl rfl
  | _ :: _, [] => .inr (.inr rfl)
  | x :: a, y :: b => by
    simp only [Op.bytesLess, Bool.or_eq_true, Bool.and_eq_true, decide_eq_true_eq, beq_iff_eq, List.cons.injEq]
    rcases Nat.lt_trichotomy x.toNat y.toNat with h | h | h
    · exact .inl (.inl h)
    · have : x = y := UInt8.toNat_inj.1 h
      subst this
      rcases sless_tot a b with h | h | h
      · exact .inl (.inr ⟨rfl, h⟩)
      · exact .inr (.inl ⟨rfl, h⟩)
      · exact .inr (.inr (.inr ⟨rfl, h⟩))
    · exact .inr (.inr (.inl h))
def badS (y x : Sg) : Bool := !(Op.bytesLess y.t x.t || y.t == x.t) || (y.t == x.t && !Op.bytesLess y.k x.k)
theorem badS_iff (y x : Sg) : badS y x = false ↔ sgR y x := by
  unfold badS sgR
  by_cases h : y.t = x.t
  · rw [h, sless_irr]; simp
  · have h2 : (y.t == x.t) = false := by simpa using h
    rw [h2]; simp [h]
theorem stands_calls (l : List UInt8) (n : Nat) (hn : n ≤ 64) (w : World) (hl : l.length ≤ 1000000) : Calls Tryz.prog 64 #[.string ⟨l.toArray⟩, .int .i64 (n : Int)] w fun e w' => e = .returned (.bool (letN l n)) ∧ Below w.heap.size w w' := by
  have HD := Lib.hid (refdec_list l false w (by omega))
  have HN := Lib.hid hn
  by_cases h : 200 < l.length
  · have HF := Lib.hid (letN_200 l n hn h)
    have t0 : decide ((l.length : Int) > 200) = true := by simp; omega
    go_enter Tryz.func64, Tryz.ntmps64
    go_wp2_with fail
    go_ret
    exact ⟨by rw [HF.out]; rfl, Below.refl _ _⟩
  · have t0 : decide ((l.length : Int) > 200) = false := by simp; omega
    have t1 : ¬ ((l.length : Int) > 200) := by omega
    go_enter Tryz.func64, Tryz.ntmps64
    go_wp2_with fail
    refine HD.out.mono ?_
    rintro e w2 hd
    unfold DecPost at hd
    cases hq : decF false l with
    | none =>
      rw [hq] at hd
      obtain ⟨rfl, hb⟩ := hd
      have HF : Hid (letN l n = false) := Lib.hid (by unfold letN; rw [hq])
      clear hq
      go_wp2_with fail
      go_ret
      exact ⟨by rw [HF.out]; rfl, hb⟩
    | some o =>
      rw [hq] at hd
      obtain ⟨⟨v, rfl, hv⟩, hb⟩ := hd
      have HF : Hid (letN l n = decide (o.length = n)) := Lib.hid (by unfold letN; rw [hq])
      obtain ⟨A, m, c, rfl, hr⟩ : ∃ A m c, v = .slice A m c ∧ m = o.length := by
        obtain ⟨hx1, hx2⟩ := hv
        rcases hx2 with ⟨rfl, h0⟩ | ⟨g, cap, cur, rfl, -, -, -, -, -, -⟩
        · exact ⟨none, 0, 0, rfl, h0.symm⟩
        · exact ⟨_, _, _, rfl, rfl⟩
      have hv2 := Lib.hid hb
      rw [← hr] at HF
      clear hq hb hr hv
      by_cases hm : m = n
      · have t2 : decide ((m : Int) = (n : Int)) = true := by simp; omega
        go_wp2_with fail
        go_ret
        exact ⟨by rw [HF.out, decide_eq_true hm]; rfl, hv2.out⟩
      · have t2 : ((m : Int) == (n : Int)) = false := by simp; omega
        go_wp2_with fail
        go_ret
        exact ⟨by rw [HF.out, decide_eq_false hm]; rfl, hv2.out⟩
theorem few_calls (l : List UInt8) (w : World) (hl : l.length ≤ 1000000) : Calls Tryz.prog 67 #[.string ⟨l.toArray⟩] w fun e w' => e = .returned (.bool (shortF l)) ∧ w = w' := by
  have HV := Lib.hid (refvalid_calls l w hl)
  by_cases h : l.length ≤ 255
  · have t0 : decide ((l.length : Int) ≤ 255) = true := by simp; omega
    have HE := Lib.hid h
    obtain ⟨q, hq⟩ : ∃ q, Lib.validD l = q := ⟨_, rfl⟩
    rw [hq] at HV
    have HQ := Lib.hid hq
    clear hq
    go_enter Tryz.func67, Tryz.ntmps67
    go_wp2_with fail
    refine HV.out.mono ?_
    rintro e w1 ⟨rfl, rfl⟩
    go_wp2_with fail
    go_ret
    exact ⟨by unfold shortF; rw [HQ.out, decide_eq_true HE.out]; rfl, rfl⟩
  · have t0 : decide ((l.length : Int) ≤ 255) = false := by simp; omega
    have HE := Lib.hid h
    have t1 : ¬ ((l.length : Int) ≤ 255) := by omega
    go_enter Tryz.func67, Tryz.ntmps67
    go_wp2_with fail
    go_ret
    exact ⟨by unfold shortF; rw [decide_eq_false HE.out]; rfl, rfl⟩
end Go.Proofs.YtkbcbikilgcckaaGreatDoor
namespace Go.Proofs.YtkbcbikilgcckaaGreatDoor
open Go.ChangeShapes Go.WideShapes Go.ChangeAt Go.RowKit Go.IntWalk
set_option linter.unusedVariables false
set_option maxRecDepth 100000

/-- 'append(own, one member)', the member's cells just laid. -/
theorem wpList_append_c7 {ops : Array Oper} {rest : List Oper} {o : Oper} {a : Act} {Q : Exit → Act → World → Prop} {w : World} (hgd : o.guard = none) (s x : Operand)
    (ho : o.op = .call { callee := .builtin .append, args := #[s, x], argTypes := #[23, 23] })
    (base : Nat) (v : Value) (n : Nat) (cs : List Value) (hs : a.eval s = v) (hown : w.ownsRow base 42 7 v n cs) (c7 : List Value) (C : Array Value) (hC : C = c7.toArray) (h7 : c7.length = 7) (h1 : ∀ u ∈ c7, u.oneCell' = true)
    (hx : a.eval x = .slice (some ⟨w.heap.size, 0, none⟩) 1 1) (hn : n ≤ 60000) (hbase : base ≤ w.heap.size)
    (h : ∀ g cap w', w'.ownsRow base 42 7 (.slice (some ⟨g, 0, none⟩) (n + 1) cap) (n + 1) (cs ++ c7) → w.grownBy w' v.ownBlock → wpList Tryz.prog ops Q rest (a.put o.dst (.slice (some ⟨g, 0, none⟩) (n + 1) cap)) w') :
    wpList Tryz.prog ops Q (o :: rest) a (w.alloc (.cells C 42)) := by
  subst hC
  obtain ⟨i, hi, hz, hsz, hby⟩ := info_parts info_memD
  have hB := Blk.new w c7 42
  refine wpList_append_lies _ hgd s x 23 ho base 42 i _ 7 104 Tryz.underlying23 hi hz hsz hby rfl (by decide) v n cs hs (World.ownsRow.alloc hown _) ⟨w.heap.size, 0, none⟩ 1 1 c7 hx (by rw [h7]) ?_ h1 (by decide) (Nat.le_trans (show n + 1 ≤ 60001 by omega) (by decide)) (by omega) (by simp; omega) _ rfl ?_
  · intro j u hj
    have hplain : (⟨w.heap.size, 0, none⟩ : Addr).add j = ⟨w.heap.size, j, none⟩ := by unfold Addr.add; split <;> simp_all
    rw [hplain]
    exact hB.cell hj
  · intro g cap w' h2 h3 _ _
    exact h g cap w' h2 ⟨h3.os, h3.tape, h3.output, Nat.le_trans (by simp) h3.size, fun k hk hne => (h3.block k (by simp; omega) hne).trans (heap_alloc_old w _ hk)⟩
set_option maxHeartbeats 4000000 in
theorem insertM_end (base : Nat) (v : Value) (n : Nat) (cs c7 : List Value) (C : Array Value) (hC : C = c7.toArray) (w : World) (ho : w.ownsRow base 42 7 v n cs) (hb : base ≤ w.heap.size) (hl : n ≤ 60000) (h7 : c7.length = 7) (h1 : ∀ u ∈ c7, u.oneCell' = true) :
    Calls Tryz.prog 59 #[v, .int .i64 (n : Int), .slice (some ⟨w.heap.size, 0, none⟩) 1 1] (w.alloc (.cells C 42)) fun e w' =>
      ∃ A c, e = .returned (.slice A (n + 1) c) ∧ w'.ownsRow base 42 7 (.slice A (n + 1) c) (n + 1) (cs ++ c7) ∧ w.grownBy w' v.ownBlock := by
  subst hC
  have HO := Lib.hid (And.intro ho (And.intro hb (And.intro h7 h1)))
  rcases ho.2 with ⟨rfl, h0⟩ | ⟨g, cap, cur, rfl, hbg, hh, hn, hm, hs, ht⟩
  · subst h0
    clear ho hl hb h7 h1
    go_enter Tryz.func59, Tryz.ntmps59
    go_wp2_with (at_builtin; refine wpList_append_c7 rfl _ _ rfl base _ 0 cs rfl HO.out.1 c7 _ rfl HO.out.2.2.1 HO.out.2.2.2 rfl (by decide) HO.out.2.1 ?_; intro g2 cap2 w5 h5 g5)
    have H5 := Lib.hid (And.intro h5 g5)
    clear h5 g5
    go_wp2_with fail
    go_ret
    exact ⟨_, _, rfl, H5.out.1, H5.out.2⟩
  · have hcm : cap ≤ 9223372036854775807 := hm
    clear ho hh ht hs hbg hb hm h7 h1
    have hci : cap = n ∨ ¬ cap = n := Classical.em _
    rcases hci with hci | hci
    all_goals
      go_enter Tryz.func59, Tryz.ntmps59
      go_wp2_with (at_builtin; refine wpList_append_c7 rfl _ _ rfl base _ n cs rfl HO.out.1 c7 _ rfl HO.out.2.2.1 HO.out.2.2.2 rfl hl HO.out.2.1 ?_; intro g2 cap2 w5 h5 g5)
      have H5 := Lib.hid (And.intro h5 g5)
      clear h5 g5
      go_wp2_with fail
      go_ret
      exact ⟨_, _, rfl, H5.out.1, H5.out.2⟩
end Go.Proofs.YtkbcbikilgcckaaGreatDoor
namespace Go.Proofs.YtkbcbikilgcckaaGreatDoor
open Go.ChangeShapes Go.WideShapes Go.ChangeAt Go.RowKit Go.IntWalk
set_option linter.unusedVariables false
set_option maxRecDepth 100000

def JT.snoc : JT → List UInt8 → Jv → JT
  | .nil, key, v => JT.one key v .nil
  | .cons k kd is n s l m r, key, v => .cons k kd is n s l m (r.snoc key v)
theorem snoc_ext : ∀ (t : JT) (key : List UInt8) (v : Jv), (t.snoc key v).ext = t.ext + 1
  | .nil, key, v => rfl
  | .cons k kd is n s l m r, key, v => by simp only [JT.snoc, JT.ext, snoc_ext r key v]
theorem snoc_lt : ∀ (t : JT) (key : List UInt8) (v : Jv) (i : Nat), i < t.ext → ((t.snoc key v).fall i).key = (t.fall i).key ∧ ((t.snoc key v).fall i).val = (t.fall i).val
  | .nil, key, v, i, h => absurd h (by simp [JT.ext])
  | .cons k kd is n s l m r, key, v, 0, h => ⟨rfl, rfl⟩
  | .cons k kd is n s l m r, key, v, i + 1, h => snoc_lt r key v i (by simp [JT.ext] at h; omega)
theorem snoc_at : ∀ (t : JT) (key : List UInt8) (v : Jv), ((t.snoc key v).fall t.ext).key = key ∧ ((t.snoc key v).fall t.ext).val = v
  | .nil, key, v => ⟨rfl, rfl⟩
  | .cons k kd is n s l m r, key, v => snoc_at r key v
/-- A map of such members. -/
def mapV (t : JT) : Jv := ⟨5, false, 0, [], .nil, t⟩
theorem own_jsl {base n : Nat} {mem : Bool} {w : World} {L : Value} {cs : List Value} {t : JT} {P Q : Nat → Prop} (h0 : w.ownsRow base (tyM mem) (stM mem) L n cs) (hn : n = t.ext) (he : ∀ i, i < t.ext → RowE P mem w cs t i)
    (hPQ : ∀ b, P b → Q b) (hQ : ∀ g, base ≤ g → g < w.heap.size → Q g) : ∃ (A : Option Addr) (c : Nat), L = .slice A n c ∧ n ≤ c ∧ JSl Q w mem A t := by
  rcases h0.2 with ⟨rfl, hn0⟩ | ⟨g, cap, cur, rfl, hb, hh, hnc, hmx, hs, ht⟩
  · refine ⟨none, 0, by rw [hn0], by omega, .inl ?_⟩
    cases t with
    | nil => rfl
    | cons => simp [JT.ext] at hn; omega
  · refine ⟨_, cap, rfl, hnc, .inr ⟨g, 0, rfl, hQ g hb (Array.getElem?_eq_some_iff.1 hh).1, JIn.of t mem g 0 (fun i hi => ?_)⟩⟩
    have hc : ∀ (k : Nat) (u : Value), cs[k]? = some u → w.cell? ⟨g, k, none⟩ = some u := fun k u hu => by
      rw [cell_of_row _ _ _ _ _ _ hh]
      rw [← ht] at hu
      simp only [List.getElem?_take] at hu
      split at hu
      · simpa using hu
      · cases hu
    obtain ⟨h2, e, h3, h4⟩ := he i hi
    refine ⟨?_, e, fun j v hj => ?_, h4.stay (fun _ _ _ => rfl) hPQ⟩
    · cases mem with
      | true => exact ⟨by rw [Nat.zero_add]; exact hc _ _ h2.1, h2.2⟩
      | false => exact h2
    · rw [Nat.zero_add]; exact hc _ _ (h3 j v hj)
theorem ownsRow_below {base n sz : Nat} {T : TypeId} {w w' : World} {L : Value} {cs : List Value} (h : w.ownsRow base T sz L n cs) (hg : Below w.heap.size w w') : w'.ownsRow base T sz L n cs := by
  refine ⟨h.1, ?_⟩
  rcases h.2 with h2 | ⟨g, cap, cur, hv, hb, hh, r⟩
  · exact .inl h2
  · exact .inr ⟨g, cap, cur, hv, hb, by rw [hg.block g ((Array.getElem?_eq_some_iff.1 hh).1)]; exact hh, r⟩
theorem ownsRow_set {base n sz g2 o : Nat} {T : TypeId} {w : World} {L v : Value} {cs : List Value} (h : w.ownsRow base T sz L n cs) (hg : g2 < base) : (w.setCell ⟨g2, o, none⟩ v).ownsRow base T sz L n cs := by
  refine ⟨h.1, ?_⟩
  rcases h.2 with h2 | ⟨g, cap, cur, hv, hb, hh, r⟩
  · exact .inl h2
  · exact .inr ⟨g, cap, cur, hv, hb, (Deep.blk_setCell_other _ _ _ _ (show g ≠ g2 by omega)).trans hh, r⟩
theorem cell_far {w : World} {g k b o : Nat} {v : Value} (h : b ≠ g) : (w.setCell ⟨g, k, none⟩ v).cell? ⟨b, o, none⟩ = w.cell? ⟨b, o, none⟩ := World.cell?_of_block (w := w) (Deep.blk_setCell_other _ _ _ _ h)
theorem blk_far {w : World} {g g2 : Nat} {T : TypeId} {cs : List Value} (h : Blk w g T cs) (hne : g ≠ g2) (k : Nat) (v : Value) : Blk (w.setCell ⟨g2, k, none⟩ v) g T cs := (Deep.blk_setCell_other _ _ _ _ hne).trans h
/-- Behind the append of one member. -/
theorem rowE_snoc {P : Nat → Prop} {w : World} {ds c7 : List Value} {t : JT} {key : List UInt8} {u : Jv} {A1 B1 : Option Addr} {nl1 cl1 nm1 cm1 : Nat} (hd : ds.length = t.ext * 7) (he : ∀ i, i < t.ext → RowE P true w ds t i)
    (hc : c7 = [strV key, .int .i64 u.kd, .bool u.is, .int .i64 u.n, strV u.s, .slice A1 nl1 cl1, .slice B1 nm1 cm1]) (hk : key.length ≤ 140737488355328) (h3 : Room nl1 cl1 u.l.ext) (h4 : Room nm1 cm1 u.m.ext) (h5 : JSl P w false A1 u.l) (h6 : JSl P w true B1 u.m) (h7 : Fit u.kd u.n u.s) :
    ∀ i, i < (t.snoc key u).ext → RowE P true w (ds ++ c7) (t.snoc key u) i := by
  intro i hi
  rw [snoc_ext] at hi
  rcases Nat.lt_succ_iff_lt_or_eq.1 hi with h | h
  · obtain ⟨e1, e, e2, e3⟩ := he i h
    have hs := snoc_lt t key u i h
    refine ⟨⟨?_, ?_⟩, e, fun j v hj => getD_app_l (e2 j v hj), ?_⟩
    · rw [hs.1]; exact getD_app_l e1.1
    · rw [hs.1]; exact e1.2
    · rw [hs.2]; exact e3
  · subst h
    have hs := snoc_at t key u
    have e7 : t.ext * stM true = ds.length + 0 := by rw [hd]; rfl
    refine ⟨⟨?_, ?_⟩, [.int .i64 u.kd, .bool u.is, .int .i64 u.n, strV u.s, .slice A1 nl1 cl1, .slice B1 nm1 cm1], fun j v hj => ?_, ?_⟩
    · rw [hs.1, e7, getD_app_r, hc]; rfl
    · rw [hs.1]; exact hk
    · rw [e7, Nat.add_zero, Nat.add_assoc, getD_app_r, hc, show kwM true = 1 from rfl, Nat.add_comm 1 j]; exact hj
    · rw [hs.2]; exact ⟨A1, nl1, cl1, B1, nm1, cm1, rfl, h3, h4, h5, h6, h7⟩
theorem fit_map : Fit 5 0 [] := by unfold Fit; decide
/-- A value whose parts lie in blocks of P. -/
def VPar (P : Nat → Prop) (w : World) (v : Jv) (A B : Option Addr) (nl cl nm cm : Nat) : Prop := Room nl cl v.l.ext ∧ Room nm cm v.m.ext ∧ JSl P w false A v.l ∧ JSl P w true B v.m ∧ Fit v.kd v.n v.s
theorem VPar.to {P Q : Nat → Prop} {w w' : World} {v : Jv} {A B : Option Addr} {nl cl nm cm : Nat} (h : VPar P w v A B nl cl nm cm) (hc : ∀ b o, P b → w'.cell? ⟨b, o, none⟩ = w.cell? ⟨b, o, none⟩) (hq : ∀ b, P b → Q b) : VPar Q w' v A B nl cl nm cm :=
  ⟨h.1, h.2.1, h.2.2.1.stay hc hq, h.2.2.2.1.stay hc hq, h.2.2.2.2⟩
theorem VPar.ok {P : Nat → Prop} {w : World} {v : Jv} {A B : Option Addr} {nl cl nm cm : Nat} (h : VPar P w v A B nl cl nm cm) (hP : ∀ b, P b → b < w.heap.size) : VOk w v A B nl cl nm cm := VPar.to h (fun _ _ _ => rfl) hP
def PutPostM (P : Nat → Prop) (t : JT) (w : World) (e : Ending) (w' : World) : Prop :=
  (∃ (B : Option Addr) (nm cm : Nat), e = .returned (.agg #[.int .i64 5, .bool false, .int .i64 0, .string ⟨#[]⟩, .slice none 0 0, .slice B nm cm]) ∧ VPar (fun b => P b ∨ (w.heap.size ≤ b ∧ b < w'.heap.size)) w' (mapV t) none B 0 0 nm cm) ∧ Below w.heap.size w w'
set_option maxHeartbeats 8000000 in
theorem putM_calls (v u : Jv) (A0 B0 A1 B1 : Option Addr) (nl0 cl0 nm0 cm0 nl1 cl1 nm1 cm1 : Nat) (key : List UInt8) (P : Nat → Prop) (w : World) (hP : ∀ b, P b → b < w.heap.size) (hv : VPar P w v A0 B0 nl0 cl0 nm0 cm0) (hu : VPar P w u A1 B1 nl1 cl1 nm1 cm1) (h5 : v.kd = 5) (hr : Rise (slts v.m))
    (hp : fposJ v key = v.m.ext) (hf : ffndJ v key = false) (hk : key.length ≤ 140737488355328) (hn : v.m.ext ≤ 50000) :
    Calls Tryz.prog 33 #[.agg #[.int .i64 5, .bool v.is, .int .i64 v.n, .string ⟨v.s.toArray⟩, .slice A0 nl0 cl0, .slice B0 nm0 cm0], .string ⟨key.toArray⟩, .agg #[.int .i64 u.kd, .bool u.is, .int .i64 u.n, .string ⟨u.s.toArray⟩, .slice A1 nl1 cl1, .slice B1 nm1 cm1]] w (PutPostM P (v.m.snoc key u) w) := by
  have b4 : Below w.heap.size w ((((w.alloc (.cells #[.int .i64 5, .bool v.is, .int .i64 v.n, .string ⟨v.s.toArray⟩, .slice A0 nl0 cl0, .slice B0 nm0 cm0] 25)).alloc (.cells #[.int .i64 u.kd, .bool u.is, .int .i64 u.n, .string ⟨u.s.toArray⟩, .slice A1 nl1 cl1, .slice B1 nm1 cm1] 25)).alloc (.cells #[.int .i64 0, .bool false, .int .i64 0, .string ⟨#[]⟩, .slice none 0 0, .slice none 0 0] 25)).alloc (.cells #[.int .i64 5, .bool false, .int .i64 0, .string ⟨#[]⟩, .slice none 0 0, .slice none 0 0] 25)) := ((((Below.refl _ _).alloc (Nat.le_refl _) _).alloc (by simp) _).alloc (by simp; omega) _).alloc (by simp; omega) _
  have hsz : ((((w.alloc (.cells #[.int .i64 5, .bool v.is, .int .i64 v.n, .string ⟨v.s.toArray⟩, .slice A0 nl0 cl0, .slice B0 nm0 cm0] 25)).alloc (.cells #[.int .i64 u.kd, .bool u.is, .int .i64 u.n, .string ⟨u.s.toArray⟩, .slice A1 nl1 cl1, .slice B1 nm1 cm1] 25)).alloc (.cells #[.int .i64 0, .bool false, .int .i64 0, .string ⟨#[]⟩, .slice none 0 0, .slice none 0 0] 25)).alloc (.cells #[.int .i64 5, .bool false, .int .i64 0, .string ⟨#[]⟩, .slice none 0 0, .slice none 0 0] 25)).heap.size = w.heap.size + 4 := by simp
  have gx : Blk ((((w.alloc (.cells #[.int .i64 5, .bool v.is, .int .i64 v.n, .string ⟨v.s.toArray⟩, .slice A0 nl0 cl0, .slice B0 nm0 cm0] 25)).alloc (.cells #[.int .i64 u.kd, .bool u.is, .int .i64 u.n, .string ⟨u.s.toArray⟩, .slice A1 nl1 cl1, .slice B1 nm1 cm1] 25)).alloc (.cells #[.int .i64 0, .bool false, .int .i64 0, .string ⟨#[]⟩, .slice none 0 0, .slice none 0 0] 25)).alloc (.cells #[.int .i64 5, .bool false, .int .i64 0, .string ⟨#[]⟩, .slice none 0 0, .slice none 0 0] 25)) w.heap.size 25 [.int .i64 5, .bool v.is, .int .i64 v.n, .string ⟨v.s.toArray⟩, .slice A0 nl0 cl0, .slice B0 nm0 cm0] := (((Blk.new w [.int .i64 5, .bool v.is, .int .i64 v.n, .string ⟨v.s.toArray⟩, .slice A0 nl0 cl0, .slice B0 nm0 cm0] 25).alloc _).alloc _).alloc _
  have gu : Blk ((((w.alloc (.cells #[.int .i64 5, .bool v.is, .int .i64 v.n, .string ⟨v.s.toArray⟩, .slice A0 nl0 cl0, .slice B0 nm0 cm0] 25)).alloc (.cells #[.int .i64 u.kd, .bool u.is, .int .i64 u.n, .string ⟨u.s.toArray⟩, .slice A1 nl1 cl1, .slice B1 nm1 cm1] 25)).alloc (.cells #[.int .i64 0, .bool false, .int .i64 0, .string ⟨#[]⟩, .slice none 0 0, .slice none 0 0] 25)).alloc (.cells #[.int .i64 5, .bool false, .int .i64 0, .string ⟨#[]⟩, .slice none 0 0, .slice none 0 0] 25)) (w.heap.size + 1) 25 [.int .i64 u.kd, .bool u.is, .int .i64 u.n, .string ⟨u.s.toArray⟩, .slice A1 nl1 cl1, .slice B1 nm1 cm1] := by
    have h := Blk.new (w.alloc (.cells #[.int .i64 5, .bool v.is, .int .i64 v.n, .string ⟨v.s.toArray⟩, .slice A0 nl0 cl0, .slice B0 nm0 cm0] 25)) [.int .i64 u.kd, .bool u.is, .int .i64 u.n, .string ⟨u.s.toArray⟩, .slice A1 nl1 cl1, .slice B1 nm1 cm1] 25
    rw [show (w.alloc (.cells #[.int .i64 5, .bool v.is, .int .i64 v.n, .string ⟨v.s.toArray⟩, .slice A0 nl0 cl0, .slice B0 nm0 cm0] 25)).heap.size = w.heap.size + 1 by simp] at h
    exact (h.alloc _).alloc _
  have gz : Blk ((((w.alloc (.cells #[.int .i64 5, .bool v.is, .int .i64 v.n, .string ⟨v.s.toArray⟩, .slice A0 nl0 cl0, .slice B0 nm0 cm0] 25)).alloc (.cells #[.int .i64 u.kd, .bool u.is, .int .i64 u.n, .string ⟨u.s.toArray⟩, .slice A1 nl1 cl1, .slice B1 nm1 cm1] 25)).alloc (.cells #[.int .i64 0, .bool false, .int .i64 0, .string ⟨#[]⟩, .slice none 0 0, .slice none 0 0] 25)).alloc (.cells #[.int .i64 5, .bool false, .int .i64 0, .string ⟨#[]⟩, .slice none 0 0, .slice none 0 0] 25)) (w.heap.size + 2) 25 [.int .i64 0, .bool false, .int .i64 0, .string ⟨#[]⟩, .slice none 0 0, .slice none 0 0] := by
    have h := Blk.new ((w.alloc (.cells #[.int .i64 5, .bool v.is, .int .i64 v.n, .string ⟨v.s.toArray⟩, .slice A0 nl0 cl0, .slice B0 nm0 cm0] 25)).alloc (.cells #[.int .i64 u.kd, .bool u.is, .int .i64 u.n, .string ⟨u.s.toArray⟩, .slice A1 nl1 cl1, .slice B1 nm1 cm1] 25)) [.int .i64 0, .bool false, .int .i64 0, .string ⟨#[]⟩, .slice none 0 0, .slice none 0 0] 25
    rw [show ((w.alloc (.cells #[.int .i64 5, .bool v.is, .int .i64 v.n, .string ⟨v.s.toArray⟩, .slice A0 nl0 cl0, .slice B0 nm0 cm0] 25)).alloc (.cells #[.int .i64 u.kd, .bool u.is, .int .i64 u.n, .string ⟨u.s.toArray⟩, .slice A1 nl1 cl1, .slice B1 nm1 cm1] 25)).heap.size = w.heap.size + 2 by simp] at h
    exact h.alloc _
  have go : Blk ((((w.alloc (.cells #[.int .i64 5, .bool v.is, .int .i64 v.n, .string ⟨v.s.toArray⟩, .slice A0 nl0 cl0, .slice B0 nm0 cm0] 25)).alloc (.cells #[.int .i64 u.kd, .bool u.is, .int .i64 u.n, .string ⟨u.s.toArray⟩, .slice A1 nl1 cl1, .slice B1 nm1 cm1] 25)).alloc (.cells #[.int .i64 0, .bool false, .int .i64 0, .string ⟨#[]⟩, .slice none 0 0, .slice none 0 0] 25)).alloc (.cells #[.int .i64 5, .bool false, .int .i64 0, .string ⟨#[]⟩, .slice none 0 0, .slice none 0 0] 25)) (w.heap.size + 3) 25 [.int .i64 5, .bool false, .int .i64 0, .string ⟨#[]⟩, .slice none 0 0, .slice none 0 0] := by
    have h := Blk.new (((w.alloc (.cells #[.int .i64 5, .bool v.is, .int .i64 v.n, .string ⟨v.s.toArray⟩, .slice A0 nl0 cl0, .slice B0 nm0 cm0] 25)).alloc (.cells #[.int .i64 u.kd, .bool u.is, .int .i64 u.n, .string ⟨u.s.toArray⟩, .slice A1 nl1 cl1, .slice B1 nm1 cm1] 25)).alloc (.cells #[.int .i64 0, .bool false, .int .i64 0, .string ⟨#[]⟩, .slice none 0 0, .slice none 0 0] 25)) [.int .i64 5, .bool false, .int .i64 0, .string ⟨#[]⟩, .slice none 0 0, .slice none 0 0] 25
    rw [show (((w.alloc (.cells #[.int .i64 5, .bool v.is, .int .i64 v.n, .string ⟨v.s.toArray⟩, .slice A0 nl0 cl0, .slice B0 nm0 cm0] 25)).alloc (.cells #[.int .i64 u.kd, .bool u.is, .int .i64 u.n, .string ⟨u.s.toArray⟩, .slice A1 nl1 cl1, .slice B1 nm1 cm1] 25)).alloc (.cells #[.int .i64 0, .bool false, .int .i64 0, .string ⟨#[]⟩, .slice none 0 0, .slice none 0 0] 25)).heap.size = w.heap.size + 3 by simp] at h
    exact h
  have HB := Lib.hid b4
  have HX := Lib.hid gx; have HU := Lib.hid gu; have HZ := Lib.hid gz; have HO := Lib.hid go
  have HSZ := Lib.hid hsz
  have HV := Lib.hid (hv.ok hP)
  have HP := Lib.hid hP
  have HUV := Lib.hid hu
  have HNN := Lib.hid hv.2.1.1
  have HK := Lib.hid (And.intro hk (And.intro hr (And.intro hp hf)))
  have hn5 : nm0 ≤ 50000 := by rw [hv.2.1.1]; exact hn
  have HCM := Lib.hid (cloneM_calls P B0 nm0 cm0 v.m ((((w.alloc (.cells #[.int .i64 5, .bool v.is, .int .i64 v.n, .string ⟨v.s.toArray⟩, .slice A0 nl0 cl0, .slice B0 nm0 cm0] 25)).alloc (.cells #[.int .i64 u.kd, .bool u.is, .int .i64 u.n, .string ⟨u.s.toArray⟩, .slice A1 nl1 cl1, .slice B1 nm1 cm1] 25)).alloc (.cells #[.int .i64 0, .bool false, .int .i64 0, .string ⟨#[]⟩, .slice none 0 0, .slice none 0 0] 25)).alloc (.cells #[.int .i64 5, .bool false, .int .i64 0, .string ⟨#[]⟩, .slice none 0 0, .slice none 0 0] 25)) (fun b hb => Nat.lt_of_lt_of_le (hP b hb) b4.size) hv.2.1.1 (by omega) (hv.2.2.2.1.stay (fun b o hb => b4.cell (p := ⟨b, o, none⟩) (hP b hb)) (fun _ h => h)))
  obtain ⟨d0, d1, d2, d3, d4, d5, _⟩ := cells6s gx
  obtain ⟨o0, o1, o2, o3, o4, o5, p0, p1, p2, p3, p4, p5⟩ := cells6s go
  have H5 := Lib.hid h5
  clear b4 hsz gx gu gz go hv hu hr hp hf hk hn h5 hP
  go_enter Tryz.func33, Tryz.ntmps33
  go_wp2_with fail
  refine HCM.out.mono ?_
  rintro e w5 ⟨⟨A3, c3, rfl, hc3, _, ds, hown, hrow⟩, b5⟩
  have HO5 := Lib.hid (HO.out.later b5)
  have HX5 := Lib.hid (HX.out.later b5)
  have HU5 := Lib.hid (HU.out.later b5)
  have HZ5 := Lib.hid (HZ.out.later b5)
  have HB5 := Lib.hid (HB.out.then_ b5)
  have HW5 := Lib.hid (And.intro hown hrow)
  clear d0 d1 d2 d3 d4 d5 o0 o1 o2 o3 o4 o5 p0 p1 p2 p3 p4 p5 hown hrow b5
  obtain ⟨o0, o1, o2, o3, o4, o5, p0, p1, p2, p3, p4, p5⟩ := cells6s HO5.out
  obtain ⟨d0, d1, d2, d3, d4, d5, _⟩ := cells6s HX5.out
  have gAll : Below w.heap.size w (w5.setCell ⟨w.heap.size + 3, 5, none⟩ (.slice A3 nm0 c3)) ∧ Blk (w5.setCell ⟨w.heap.size + 3, 5, none⟩ (.slice A3 nm0 c3)) w.heap.size 25 [.int .i64 5, .bool v.is, .int .i64 v.n, .string ⟨v.s.toArray⟩, .slice A0 nl0 cl0, .slice B0 nm0 cm0] ∧ Blk (w5.setCell ⟨w.heap.size + 3, 5, none⟩ (.slice A3 nm0 c3)) (w.heap.size + 1) 25 [.int .i64 u.kd, .bool u.is, .int .i64 u.n, .string ⟨u.s.toArray⟩, .slice A1 nl1 cl1, .slice B1 nm1 cm1] ∧ Blk (w5.setCell ⟨w.heap.size + 3, 5, none⟩ (.slice A3 nm0 c3)) (w.heap.size + 2) 25 [.int .i64 0, .bool false, .int .i64 0, .string ⟨#[]⟩, .slice none 0 0, .slice none 0 0] ∧ Blk (w5.setCell ⟨w.heap.size + 3, 5, none⟩ (.slice A3 nm0 c3)) (w.heap.size + 3) 25 [.int .i64 5, .bool false, .int .i64 0, .string ⟨#[]⟩, .slice none 0 0, .slice A3 nm0 c3] ∧ (w5.setCell ⟨w.heap.size + 3, 5, none⟩ (.slice A3 nm0 c3)).ownsRow (w.heap.size + 4) (tyM true) (stM true) (.slice A3 nm0 c3) nm0 ds ∧ ∀ i, i < v.m.ext → RowE P true (w5.setCell ⟨w.heap.size + 3, 5, none⟩ (.slice A3 nm0 c3)) ds v.m i := by
    refine ⟨?_, ?_, ?_, ?_, ?_, ?_, ?_⟩
    · exact HB5.out.setCell (by show _ ≤ w.heap.size + 3; omega) _
    · exact blk_far HX5.out (by omega) _ _
    · exact blk_far HU5.out (by omega) _ _
    · exact blk_far HZ5.out (by omega) _ _
    · exact HO5.out.set_ 5 _
    · have h := HW5.out.1; rw [HSZ.out] at h; exact ownsRow_set h (by omega)
    · exact fun i hi => (HW5.out.2 i hi).stay (fun b o hb => cell_far (by have := HP.out b hb; omega)) (fun _ h => h)
  clear HX5 HU5 HZ5 HB5 HO5 HW5 HCM HB HX HU HZ HO
  obtain ⟨g1, g2, g3, g4, g5, g6, g7⟩ := gAll
  have HB := Lib.hid g1; have HX := Lib.hid g2; have HU := Lib.hid g3; have HZ := Lib.hid g4; have HO := Lib.hid g5; have HW := Lib.hid (And.intro g6 g7)
  have hff := jfind_calls v A0 B0 nl0 cl0 nm0 cm0 key _ (HV.out.below g1) HK.out.2.1
  rw [HK.out.2.2.1, HK.out.2.2.2, ← HNN.out, H5.out] at hff
  have HFI := Lib.hid hff
  clear g1 g2 g3 g4 g5 g6 g7 hff
  go_wp2_with fail
  refine HFI.out.mono ?_
  rintro e wh ⟨rfl, b6⟩
  have HBh := Lib.hid (HB.out.then_ b6)
  have HUh := Lib.hid (HU.out.later b6)
  have HZh := Lib.hid (HZ.out.later b6)
  have HOh := Lib.hid (HO.out.later b6)
  have HWh := Lib.hid (And.intro (ownsRow_below HW.out.1 b6) (show ∀ i, i < v.m.ext → RowE P true wh ds v.m i from fun i hi => (HW.out.2 i hi).stay (fun b o hb => b6.cell (p := ⟨b, o, none⟩) (by have := HB.out.size; have := HP.out b hb; show b < _; omega)) (fun _ h => h)))
  have hw4 : w.heap.size + 4 ≤ wh.heap.size := HOh.out.lt
  have HIN := Lib.hid (insertM_end (w.heap.size + 4) (.slice A3 nm0 c3) nm0 ds [.string ⟨key.toArray⟩, .int .i64 u.kd, .bool u.is, .int .i64 u.n, .string ⟨u.s.toArray⟩, .slice A1 nl1 cl1, .slice B1 nm1 cm1] _ rfl wh HWh.out.1 hw4 (by omega) rfl (by intro u hu; simp only [List.mem_cons, List.not_mem_nil, or_false] at hu; rcases hu with rfl | rfl | rfl | rfl | rfl | rfl | rfl <;> rfl))
  clear d0 d1 d2 d3 d4 d5 o0 o1 o2 o3 o4 o5 p0 p1 p2 p3 p4 p5 b6
  obtain ⟨o0, o1, o2, o3, o4, o5, p0, p1, p2, p3, p4, p5⟩ := cells6s HOh.out
  obtain ⟨e0, e1, e2, e3, e4, e5, _⟩ := cells6s HUh.out
  go_wp2_with fail
  refine HIN.out.mono ?_
  rintro e w7 ⟨A4, c4, rfl, hown, hg⟩
  have hb7 : Below (w.heap.size + 4) wh w7 := (Below.refl _ _).grown hg hw4 (fun k hk => (World.ownsRow.lt HWh.out.1 k hk).1)
  have HO7 := Lib.hid (HOh.out.below hb7 (by omega))
  have HZ7 := Lib.hid (HZh.out.below hb7 (by omega))
  have HB7 := Lib.hid (HBh.out.trans (hb7.mono (by omega)))
  have hr7 := rowE_snoc (P := P) (w := w7) (ds := ds) (c7 := [.string ⟨key.toArray⟩, .int .i64 u.kd, .bool u.is, .int .i64 u.n, .string ⟨u.s.toArray⟩, .slice A1 nl1 cl1, .slice B1 nm1 cm1]) (t := v.m) (key := key) (u := u) (by rw [HWh.out.1.1, HNN.out]; rfl) (fun i hi => (HWh.out.2 i hi).stay (fun b o hb => hb7.cell (p := ⟨b, o, none⟩) (by have := HP.out b hb; show b < _; omega)) (fun _ h => h)) rfl HK.out.1 HUV.out.1 HUV.out.2.1
    (HUV.out.2.2.1.stay (fun b o hb => HB7.out.cell (p := ⟨b, o, none⟩) (HP.out b hb)) (fun _ h => h)) (HUV.out.2.2.2.1.stay (fun b o hb => HB7.out.cell (p := ⟨b, o, none⟩) (HP.out b hb)) (fun _ h => h)) HUV.out.2.2.2.2
  obtain ⟨A5, c5, he5, hc5, hj⟩ := own_jsl (mem := true) (Q := fun b => (P b ∨ w.heap.size + 4 ≤ b) ∧ b < w7.heap.size) hown (by rw [snoc_ext, HNN.out]) hr7 (fun b hb => ⟨.inl hb, by have := HB7.out.size; have := HP.out b hb; omega⟩) (fun g h1 h2 => ⟨.inr h1, h2⟩)
  injection he5 with e1 e2 e3
  subst e1 e3
  have HJ := Lib.hid (And.intro hc5 hj)
  clear hown hg hb7 hr7 hc5 hj o0 o1 o2 o3 o4 o5 p0 p1 p2 p3 p4 p5 e0 e4 e5
  obtain ⟨o0, o1, o2, o3, o4, o5, p0, p1, p2, p3, p4, p5⟩ := cells6s HO7.out
  obtain ⟨g0, g1, g2, g3, g4, g5, k0, k1, k2, k3, k4, k5⟩ := cells6s HZ7.out
  go_wp2_with fail
  have hfin : ∀ b o, (P b ∨ w.heap.size + 4 ≤ b) ∧ b < w7.heap.size → (set6o (w7.setCell ⟨w.heap.size + 3, 5, none⟩ (.slice A4 (nm0 + 1) c4)) (w.heap.size + 2) 0 (.int .i64 5) (.bool false) (.int .i64 0) (.string ⟨#[]⟩) (.slice none 0 0) (.slice A4 (nm0 + 1) c4)).cell? ⟨b, o, none⟩ = w7.cell? ⟨b, o, none⟩ := fun b o hb => (cell6o (by rcases hb.1 with h | h; { have := HP.out b h; omega }; { omega })).trans (cell_far (by rcases hb.1 with h | h; { have := HP.out b h; omega }; { omega }))
  refine bodyPost_ret (res_cell6 rfl _ ⟨w.heap.size + 2, 0, none⟩ _ _ rfl (Blk.load (blk6o (o := 0) (blk_far HZ7.out (by omega) 5 (.slice A4 (nm0 + 1) c4))) _ Tryz.underlying25 rfl size_v6)) rfl ⟨⟨A4, nm0 + 1, c4, rfl, ⟨rfl, Nat.le_refl _, by decide⟩, ⟨by show nm0 + 1 = (v.m.snoc key u).ext; rw [snoc_ext, HNN.out], HJ.out.1, by omega⟩, .inl rfl, HJ.out.2.stay hfin (fun b hb => ?_), fit_map⟩, below6o (HB7.out.setCell (by show _ ≤ w.heap.size + 3; omega) _) (by omega)⟩
  rcases hb.1 with h | h
  · exact .inl h
  · refine .inr ⟨by omega, ?_⟩
    show b < (set6o _ _ 0 _ _ _ _ _ _).heap.size
    rw [size6o]
    simpa [World.setCell] using hb.2
end Go.Proofs.YtkbcbikilgcckaaGreatDoor
namespace Go.Proofs.YtkbcbikilgcckaaGreatDoor
set_option linter.unusedVariables false

/-- It writes behind what is there: the same behind anything that is not longer. -/
def Fine (g : List UInt8 → Res) : Prop := ∀ b b', g b = .ok b' → ∃ t, b' = b ++ t ∧ ∀ c : List UInt8, c.length ≤ b.length → g c = .ok (c ++ t)
theorem fine_lng (x : List UInt8) : Fine (fun b => lng (b ++ x)) := by
  intro b b' h
  simp only [lng] at h
  split at h
  · rename_i h1
    injection h with h
    refine ⟨x, h.symm, fun c hc => ?_⟩
    simp only [lng]
    rw [if_pos (by simp only [List.length_append] at h1 ⊢; omega)]
  · cases h
theorem fine_txt (s : List UInt8) : Fine (fun b => txt b s) := by
  intro b b' h
  simp only [txt] at h
  split at h
  · cases h
  · rename_i h1
    split at h
    · rename_i h2
      obtain ⟨t, h3, h4⟩ := fine_lng (putF s) b b' h
      refine ⟨t, h3, fun c hc => ?_⟩
      simp only [txt]
      rw [if_neg h1, if_pos h2]
      exact h4 c hc
    · cases h
theorem fine_err (e : Int) : Fine (fun _ => .error e) := by intro b b' h; cases h
theorem fine_ok : Fine (fun b => .ok b) := by
  intro b b' h
  injection h with h
  exact ⟨[], by simp [h], fun c _ => by simp⟩
theorem fine_then {g h : List UInt8 → Res} (hg : Fine g) (hh : Fine h) : Fine (fun b => (g b).then h) := by
  intro b b' e
  cases hb : g b with
  | error x => simp only [hb, Res.then] at e; cases e
  | ok b1 =>
    simp only [hb, Res.then] at e
    obtain ⟨t1, h1, h2⟩ := hg b b1 hb
    obtain ⟨t2, h3, h4⟩ := hh b1 b' e
    refine ⟨t1 ++ t2, by rw [h3, h1, List.append_assoc], fun c hc => ?_⟩
    simp only [h2 c hc, Res.then]
    rw [h4 (c ++ t1) (by rw [h1]; simp only [List.length_append]; omega), List.append_assoc]
theorem fine_ite {p : Prop} [Decidable p] {g h : List UInt8 → Res} (hg : p → Fine g) (hh : ¬ p → Fine h) : Fine (fun b => if p then g b else h b) := by
  by_cases hp : p
  · have : (fun b => if p then g b else h b) = g := by funext b; rw [if_pos hp]
    rw [this]; exact hg hp
  · have : (fun b => if p then g b else h b) = h := by funext b; rw [if_neg hp]
    rw [this]; exact hh hp
theorem fine_wrB {v : Jv} {deep : Nat} {wl wm : List UInt8 → Res} (h1 : Fine wl) (h2 : Fine wm) : Fine (wrB v deep wl wm) := by
  unfold wrB
  refine fine_ite (fun _ => fine_err _) fun _ => fine_ite (fun _ => fine_lng _) fun _ => fine_ite (fun _ => fine_lng _) fun _ => fine_ite (fun _ => fine_lng _) fun _ => fine_ite (fun _ => fine_txt _) fun _ => fine_ite (fun _ => fine_err _) fun _ => fine_ite (fun _ => ?_) fun _ => ?_
  · exact fine_then (fine_lng _) (fine_then h1 (fine_lng _))
  · exact fine_then (fine_lng _) (fine_then h2 (fine_lng _))
theorem fine_wrK (mem : Bool) (prev : Option (List UInt8)) (k : List UInt8) : Fine (wrK mem prev k) := by
  unfold wrK
  refine fine_then (g := fun b => match prev with | none => .ok b | some p => (lng (b ++ [44])).then fun b => if mem && leqB k p then .error 1 else .ok b) ?_ ?_
  · cases prev with
    | none => exact fine_ok
    | some p => exact fine_then (fine_lng _) (fine_ite (fun _ => fine_err _) fun _ => fine_ok)
  · exact fine_ite (fun _ => fine_then (fine_txt _) (fine_lng _)) fun _ => fine_ok
theorem fine_wrF : ∀ (t : JT) (mem : Bool) (deep : Nat) (prev : Option (List UInt8)), Fine (wrF mem t deep prev)
  | .nil, mem, deep, prev => by
    have : wrF mem .nil deep prev = fun b => .ok b := by funext b; rfl
    rw [this]; exact fine_ok
  | .cons k kd is n s l m r, mem, deep, prev => by
    have : wrF mem (.cons k kd is n s l m r) deep prev = fun b => (wrK mem prev k b).then fun b => (wrB ⟨kd, is, n, s, l, m⟩ deep (fun b => wrF false l (deep + 1) none b) (fun b => wrF true m (deep + 1) none b) b).then fun b => wrF mem r deep (some k) b := by funext b; rfl
    rw [this]
    exact fine_then (fine_wrK _ _ _) (fine_then (fine_wrB (fine_wrF l _ _ _) (fine_wrF m _ _ _)) (fine_wrF r _ _ _))
theorem fine_wrV (v : Jv) (deep : Nat) : Fine (wrV v deep) := fine_wrB (fine_wrF _ _ _ _) (fine_wrF _ _ _ _)
theorem Fine.len {g : List UInt8 → Res} (h : Fine g) {b b' : List UInt8} (e : g b = .ok b') : b.length ≤ b'.length := by
  obtain ⟨t, h1, _⟩ := h b b' e
  rw [h1]; simp
/-- What h writes is not longer than what g writes, and is fine where that is. -/
def Les (g h : List UInt8 → Res) : Prop := ∀ b b', g b = .ok b' → ∀ c : List UInt8, c.length ≤ b.length → ∃ c', h c = .ok c' ∧ c'.length ≤ b'.length
theorem Fine.les {g : List UInt8 → Res} (h : Fine g) : Les g g := fun b b' e c hc => by
  obtain ⟨t, h1, h2⟩ := h b b' e
  exact ⟨c ++ t, h2 c hc, by rw [h1]; simp only [List.length_append]; omega⟩
theorem Fine.les_ok {g : List UInt8 → Res} (h : Fine g) : Les g (fun b => .ok b) := fun b b' e c hc => ⟨c, rfl, Nat.le_trans hc (h.len e)⟩
theorem Les.then {g h g2 h2 : List UInt8 → Res} (h1 : Les g h) (h3 : Les g2 h2) : Les (fun b => (g b).then g2) (fun b => (h b).then h2) := fun b b' e c hc => by
  cases hb : g b with
  | error x => simp only [hb, Res.then] at e; cases e
  | ok b1 =>
    simp only [hb, Res.then] at e
    obtain ⟨c1, e1, l1⟩ := h1 b b1 hb c hc
    obtain ⟨c2, e2, l2⟩ := h3 b1 b' e c1 l1
    exact ⟨c2, by simp only [e1, Res.then]; exact e2, l2⟩
/-- The first part is passed over. -/
theorem Les.skip {g g2 h : List UInt8 → Res} (h1 : Fine g) (h3 : Les g2 h) : Les (fun b => (g b).then g2) h := fun b b' e c hc => by
  cases hb : g b with
  | error x => simp only [hb, Res.then] at e; cases e
  | ok b1 =>
    simp only [hb, Res.then] at e
    exact h3 b1 b' e c (Nat.le_trans hc (h1.len hb))
/-- A key behind none, or behind one that is at most the other. -/
def PrevLe (q p : Option (List UInt8)) : Prop := q = none ∨ ∃ q' p', q = some q' ∧ p = some p' ∧ (q' = p' ∨ Op.bytesLess q' p' = true)
theorem prevLe_refl (p : Option (List UInt8)) : PrevLe p p := by
  cases p with
  | none => exact .inl rfl
  | some p => exact .inr ⟨p, p, rfl, rfl, .inl rfl⟩
theorem leq_of {k p q : List UInt8} (h : leqB k p = false) (hq : q = p ∨ Op.bytesLess q p = true) : leqB k q = false := by
  rcases hq with rfl | hq
  · exact h
  · unfold leqB at h ⊢
    simp only [Bool.or_eq_false_iff, beq_eq_false_iff_ne, ne_eq] at h ⊢
    refine ⟨?_, ?_⟩
    · cases h1 : Op.bytesLess k q with
      | false => rfl
      | true => have := sless_trans h1 hq; rw [h.1] at this; cases this
    · rintro rfl
      rw [h.1] at hq; cases hq
theorem less_of_leq {k p : List UInt8} (h : leqB k p = false) : Op.bytesLess p k = true := by
  unfold leqB at h
  simp only [Bool.or_eq_false_iff, beq_eq_false_iff_ne, ne_eq] at h
  rcases sless_tot k p with h1 | h1 | h1
  · rw [h.1] at h1; cases h1
  · exact absurd h1 h.2
  · exact h1
theorem wrK_prev {p : List UInt8} {k b b' : List UInt8} (h : wrK true (some p) k b = .ok b') : leqB k p = false := by
  unfold wrK at h
  cases hq : leqB k p with
  | false => rfl
  | true =>
    simp only [hq, Res.then, lng, Bool.and_self, if_true] at h
    split at h
    · rename_i h1
      split at h1
      · rename_i h2
        split at h2
        · cases h1
        · cases h2
      · cases h1
    · cases h
theorem les_wrK {q p : Option (List UInt8)} (k : List UInt8) (hq : PrevLe q p) : Les (wrK true p k) (wrK true q k) := by
  rcases hq with rfl | ⟨q, p, rfl, rfl, hqp⟩
  · cases p with
    | none => exact (fine_wrK _ _ _).les
    | some p =>
      have e1 : wrK true (some p) k = fun b => ((lng (b ++ [44])).then fun b => if true && leqB k p then .error 1 else .ok b).then fun b => (txt b k).then fun b => lng (b ++ [58]) := rfl
      have e2 : wrK true none k = fun b => (txt b k).then fun b => lng (b ++ [58]) := rfl
      rw [e1, e2]
      exact Les.skip (fine_then (fine_lng _) (fine_ite (fun _ => fine_err _) fun _ => fine_ok)) (fine_then (fine_txt _) (fine_lng _)).les
  · intro b b' e c hc
    have h1 := wrK_prev e
    have h2 := leq_of h1 hqp
    have e1 : wrK true (some q) k = wrK true (some p) k := by
      unfold wrK
      simp only [h1, h2]
    rw [e1]
    exact (fine_wrK _ _ _).les b b' e c hc
/-- What stays of a row's members. -/
def fltJ (f : List UInt8 → Jv → Option Jv) : JT → JT
  | .nil => .nil
  | .cons k kd is n s l m r => match f k ⟨kd, is, n, s, l, m⟩ with
    | some u => JT.one k u (fltJ f r)
    | none => fltJ f r
theorem flt_les (f : List UInt8 → Jv → Option Jv) (d : Nat) (hf : ∀ k v u, f k v = some u → Les (wrV v d) (wrV u d)) : ∀ (t : JT) (p q : Option (List UInt8)), PrevLe q p → Les (wrF true t d p) (wrF true (fltJ f t) d q)
  | .nil, p, q, _ => fine_ok.les
  | .cons k kd is n s l m r, p, q, hq => by
    have e1 : wrF true (.cons k kd is n s l m r) d p = fun b => (wrK true p k b).then fun b => (wrV ⟨kd, is, n, s, l, m⟩ d b).then fun b => wrF true r d (some k) b := rfl
    rw [e1]
    cases hu : f k ⟨kd, is, n, s, l, m⟩ with
    | some u =>
      have e2 : fltJ f (.cons k kd is n s l m r) = JT.one k u (fltJ f r) := by simp only [fltJ, hu]
      have e3 : wrF true (JT.one k u (fltJ f r)) d q = fun b => (wrK true q k b).then fun b => (wrV u d b).then fun b => wrF true (fltJ f r) d (some k) b := by funext b; exact wrF_one _ _ _ _ _ _ _
      rw [e2, e3]
      exact (les_wrK k hq).then ((hf _ _ _ hu).then (flt_les f d hf r (some k) (some k) (prevLe_refl _)))
    | none =>
      have e2 : fltJ f (.cons k kd is n s l m r) = fltJ f r := by simp only [fltJ, hu]
      rw [e2]
      intro b b' e c hc
      have hq2 : PrevLe q (some k) := by
        rcases hq with rfl | ⟨q, p, rfl, rfl, hqp⟩
        · exact .inl rfl
        · refine .inr ⟨q, k, rfl, rfl, .inr ?_⟩
          cases hb : wrK true (some p) k b with
          | error x => simp only [hb, Res.then] at e; cases e
          | ok b1 =>
            have := less_of_leq (wrK_prev hb)
            rcases hqp with rfl | hqp
            · exact this
            · exact sless_trans hqp this
      exact Les.skip (fine_wrK _ _ _) (Les.skip (fine_wrV _ _) (flt_les f d hf r (some k) q hq2)) b b' e c hc
/-- One member alone. -/
theorem find_les (key : List UInt8) (d : Nat) : ∀ (t : JT) (p : Option (List UInt8)) (x : Jv), t.findV key = some x → Les (wrF true t d p) (wrF true (JT.one key x .nil) d none)
  | .nil, p, x, h => by cases h
  | .cons k kd is n s l m r, p, x, h => by
    have e1 : wrF true (.cons k kd is n s l m r) d p = fun b => (wrK true p k b).then fun b => (wrV ⟨kd, is, n, s, l, m⟩ d b).then fun b => wrF true r d (some k) b := rfl
    rw [e1]
    unfold JT.findV at h
    by_cases hk : k = key
    · rw [if_pos hk] at h
      injection h with h
      subst hk; subst h
      have e3 : wrF true (JT.one k ⟨kd, is, n, s, l, m⟩ .nil) d none = fun b => (wrK true none k b).then fun b => (wrV ⟨kd, is, n, s, l, m⟩ d b).then fun b => wrF true .nil d (some k) b := by funext b; exact wrF_one _ _ _ _ _ _ _
      rw [e3]
      exact (les_wrK k (.inl rfl)).then ((fine_wrV _ _).les.then (fine_wrF r _ _ _).les_ok)
    · rw [if_neg hk] at h
      exact Les.skip (fine_wrK _ _ _) (Les.skip (fine_wrV _ _) (find_les key d r (some k) x h))
theorem mapV_bare (t : JT) : (mapV t).bare = true := by simp [Jv.bare, mapV, JT.isNil]
theorem les_map {v : Jv} {t : JT} (d : Nat) (h5 : v.kd = 5) (h : Les (wrF true v.m (d + 1) none) (wrF true t (d + 1) none)) : Les (wrV v d) (wrV (mapV t) d) := by
  intro b b' e c hc
  unfold wrV wrB at e
  by_cases hb : v.bare = false
  · rw [if_pos hb] at e; cases e
  by_cases hd : 32 ≤ d
  · simp [hb, h5, hd] at e
  have e1 : ((lng (b ++ [123])).then fun b => (wrF true v.m (d + 1) none b).then fun b => lng (b ++ [125])) = .ok b' := by
    simpa [hb, h5, hd] using e
  obtain ⟨c', h1, h2⟩ := ((fine_lng [123]).les.then (h.then (fine_lng [125]).les)) b b' e1 c hc
  refine ⟨c', ?_, h2⟩
  unfold wrV wrB
  rw [mapV_bare]
  have hk : (mapV t).kd = 5 := rfl
  have hm : (mapV t).m = t := rfl
  simpa [hk, hd, hm] using h1
end Go.Proofs.YtkbcbikilgcckaaGreatDoor
