/- Texts put together: JkM JqA JqT JqU. -/
import Derived.Test.YtajkgcmopmpihaaGreatDoorY565b1dc0b7
import Derived.Test.YtajkgcmopmpihaaGreatDoorY6376f27b79
import Derived.Test.YtajkgcmopmpihaaGreatDoorYb68c321d8f
import Derived.Test.YtajkgcmopmpihaaGreatDoorY312e217225
import Derived.Test.YtajkgcmopmpihaaGreatDoorYa45e253fbd
import Derived.Test.YtajkgcmopmpihaaGreatDoorY8edaa997fb
import Derived.Test.YtajkgcmopmpihaaGreatDoorYcc81974a9e
namespace Go.Proofs.YtajkgcmopmpihaaGreatDoor
open Go.ChangeShapes Go.WideShapes Go.ChangeAt Go.RowKit Go.IntWalk
set_option linter.unusedVariables false
set_option maxRecDepth 100000
def GrB (v : Jv) (e : Ending) : Prop := ∃ g : Bool, e = .returned (.bool g) ∧ (g = false → v.bulk ≤ 8192)
theorem greatB_calls (v : Jv) (A B : Option Addr) (nl cl nm cm : Nat) (w : World) (hv : VOk w v A B nl cl nm cm) :
    Calls Tryz.prog 16 #[.agg #[.int .i64 v.kd, .bool v.is, .int .i64 v.n, .string ⟨v.s.toArray⟩, .slice A nl cl, .slice B nm cm]] w fun e w' => GrB v e ∧ Below w.heap.size w w' := by
  have b1 : Below w.heap.size w (w.alloc (.cells #[.int .i64 v.kd, .bool v.is, .int .i64 v.n, .string ⟨v.s.toArray⟩, .slice A nl cl, .slice B nm cm] 25)) := (Below.refl _ _).alloc (Nat.le_refl _) _
  have HV := weigh_calls v.bulk v 8192 60 60 _ A B nl cl nm cm (Nat.le_refl _) (by decide) (by decide) (by decide) (by decide) hv.1 hv.2.1 (hv.2.2.1.up b1) (hv.2.2.2.1.up b1) hv.2.2.2.2
  have HB := Lib.hid b1
  clear hv b1
  go_enter Tryz.func16, Tryz.ntmps16
  go_wp2_with fail
  refine HV.mono ?_
  rintro e w3 ⟨⟨hz3, hz4, rfl⟩, b3⟩
  have HB3 := Lib.hid (HB.out.then_ b3)
  clear b3 HV
  go_wp2_with fail
  go_ret
  exact ⟨⟨_, rfl, fun h => by
    have h1 : ¬ wgV v 8192 60 < 0 := of_decide_eq_false h
    have := (wgV_bulk (v := v) (n := 8192) (d := 60) (by decide) (by omega)).1
    omega⟩, HB3.out⟩
theorem Wri.set {lo st n : Nat} {T : TypeId} {A : Option Addr} {W : World} (h : Wri lo st T A n W) (b o : Nat) (vs : List Value) : Wri lo st T A n (W.setCells b o vs) := by
  rcases h with h | ⟨b2, o2, cs, h1, h2, h3, h4⟩
  · exact .inl h
  · by_cases hb : b2 = b
    · subst hb
      obtain ⟨cs', h6, h7⟩ := setCells_len vs o W cs h3
      exact .inr ⟨b2, o2, cs', h1, h2, h6, by omega⟩
    · exact .inr ⟨b2, o2, cs, h1, h2, (setCells_chg vs o W).blk h3 hb, h4⟩
theorem Blk.ne_ty {W : World} {a b : Nat} {T T' : TypeId} {xs ys : List Value} (h : Blk W a T xs) (h' : Blk W b T' ys) (ht : T ≠ T') : a ≠ b := fun e => by
  subst e
  unfold Blk at h h'
  rw [h] at h'
  injection h' with h'
  injection h' with h1 h2
  exact ht h2
theorem Wri.row {lo st n i : Nat} {T : TypeId} {A : Option Addr} {W : World} (h : Wri lo st T A n W) (hi : i < n) : ∃ b o cs, A = some ⟨b, o, none⟩ ∧ lo ≤ b ∧ Blk W b T cs ∧ W.there b (o + i * st) st := by
  obtain ⟨b, o, e, h1, h2, h3⟩ := h.there hi
  rcases h with h | ⟨b2, o2, cs, e2, h4, h5, h6⟩
  · omega
  · rw [e] at e2
    injection e2 with e2
    injection e2 with e2 e3
    subst e2 e3
    exact ⟨b, o, cs, e, h1, h5, h3⟩
def put9F (lo : Nat) : Lft := ⟨fun x => ∃ (A : Option Addr) (n c : Nat), x = .agg #[.int .i64 5, .bool false, .int .i64 0, .string ⟨#[]⟩, .slice none 0 0, .slice A n c],
  fun x w => ∃ (A : Option Addr) (n c : Nat), x = .agg #[.int .i64 5, .bool false, .int .i64 0, .string ⟨#[]⟩, .slice none 0 0, .slice A n c] ∧ n ≤ 100000 ∧ Wri lo 7 44 A n w,
  fun x w w' ⟨A, n, c, h1, h2, h3⟩ hb => ⟨A, n, c, h1, h2, h3.later hb⟩⟩
def boxF (lo : Nat) : Lft := ⟨fun x => ∃ b : Nat, x = .pointer (some ⟨b, 0, none⟩),
  fun x w => ∃ b : Nat, x = .pointer (some ⟨b, 0, none⟩) ∧ lo ≤ b ∧ Blk w b 25 [.int .i64 0, .bool false, .int .i64 0, .string ⟨#[]⟩, .slice none 0 0, .slice none 0 0],
  fun x w w' ⟨b, h1, h2, h3⟩ hb => ⟨b, h1, h2, h3.later hb⟩⟩
theorem put_lk {lo : Nat} {f : FuncId} {args : Array Value} {W : World} (hl : lo ≤ W.heap.size) (h : Calls Tryz.prog f args W (Put9 W)) : Calls Tryz.prog f args W fun e W' => ∃ v, e = .returned v ∧ (put9F lo).R v ∧ (put9F lo).M v W' ∧ Below W.heap.size W W' := by
  refine h.mono ?_
  rintro e W' ⟨⟨A, n, c, rfl, h1, h2⟩, h3⟩
  exact ⟨_, rfl, ⟨A, n, c, rfl⟩, ⟨A, n, c, rfl, h1, h2.low hl⟩, h3⟩
def MBox (lo q : Nat) (A : Option Addr) (n c : Nat) (W : World) : Prop := lo ≤ q ∧ Blk W q 25 [.int .i64 5, .bool false, .int .i64 0, .string ⟨#[]⟩, .slice none 0 0, .slice A n c] ∧ n ≤ 100000 ∧ Wri lo 7 44 A n W
theorem MBox.later {lo q n c : Nat} {A : Option Addr} {W W' : World} (h : MBox lo q A n c W) (b : Below W.heap.size W W') : MBox lo q A n c W' := ⟨h.1, h.2.1.later b, h.2.2.1, h.2.2.2.later b⟩
theorem MBox.set {lo q n c b : Nat} {A : Option Addr} {W : World} {cs : List Value} (h : MBox lo q A n c W) (hb : Blk W b 44 cs) (o : Nat) (vs : List Value) : MBox lo q A n c (W.setCells b o vs) :=
  ⟨h.1, (setCells_chg vs o W).blk h.2.1 (fun e => Blk.ne_ty h.2.1 hb (by decide) e), h.2.2.1, h.2.2.2.set _ _ _⟩
theorem two_boxes {lo q6 q7 n6 c6 n7 c7 : Nat} {A6 A7 : Option Addr} {W : World} (l6 : lo ≤ q6) (l7 : lo ≤ q7) (h6 : Blk W q6 25 [.int .i64 0, .bool false, .int .i64 0, .string ⟨#[]⟩, .slice none 0 0, .slice none 0 0]) (h7 : Blk W q7 25 [.int .i64 0, .bool false, .int .i64 0, .string ⟨#[]⟩, .slice none 0 0, .slice none 0 0])
    (hn6 : n6 ≤ 100000) (hn7 : n7 ≤ 100000) (hw6 : Wri lo 7 44 A6 n6 W) (hw7 : Wri lo 7 44 A7 n7 W) :
    (W.setCells q6 0 [.int .i64 5, .bool false, .int .i64 0, .string ⟨#[]⟩, .slice none 0 0, .slice A6 n6 c6]).there q7 0 6 ∧
    ∃ (A : Option Addr) (n c : Nat), MBox lo q6 A n c ((W.setCells q6 0 [.int .i64 5, .bool false, .int .i64 0, .string ⟨#[]⟩, .slice none 0 0, .slice A6 n6 c6]).setCells q7 0 [.int .i64 5, .bool false, .int .i64 0, .string ⟨#[]⟩, .slice none 0 0, .slice A7 n7 c7]) ∧
      MBox lo q7 A7 n7 c7 ((W.setCells q6 0 [.int .i64 5, .bool false, .int .i64 0, .string ⟨#[]⟩, .slice none 0 0, .slice A6 n6 c6]).setCells q7 0 [.int .i64 5, .bool false, .int .i64 0, .string ⟨#[]⟩, .slice none 0 0, .slice A7 n7 c7]) := by
  by_cases he : q6 = q7
  · subst he
    have g1 : Blk (W.setCells q6 0 [.int .i64 5, .bool false, .int .i64 0, .string ⟨#[]⟩, .slice none 0 0, .slice A6 n6 c6]) q6 25 [.int .i64 5, .bool false, .int .i64 0, .string ⟨#[]⟩, .slice none 0 0, .slice A6 n6 c6] := blk6 h6
    have g2 : MBox lo q6 A7 n7 c7 ((W.setCells q6 0 [.int .i64 5, .bool false, .int .i64 0, .string ⟨#[]⟩, .slice none 0 0, .slice A6 n6 c6]).setCells q6 0 [.int .i64 5, .bool false, .int .i64 0, .string ⟨#[]⟩, .slice none 0 0, .slice A7 n7 c7]) := ⟨l6, blk6 g1, hn7, (hw7.set _ _ _).set _ _ _⟩
    exact ⟨there6 g1, A7, n7, c7, g2, g2⟩
  · have g1 : Blk (W.setCells q6 0 [.int .i64 5, .bool false, .int .i64 0, .string ⟨#[]⟩, .slice none 0 0, .slice A6 n6 c6]) q6 25 [.int .i64 5, .bool false, .int .i64 0, .string ⟨#[]⟩, .slice none 0 0, .slice A6 n6 c6] := blk6 h6
    have g2 := (setCells_chg [.int .i64 5, .bool false, .int .i64 0, .string ⟨#[]⟩, .slice none 0 0, .slice A6 n6 c6] 0 W (g := q6)).blk h7 (fun e => he e.symm)
    exact ⟨there6 g2, A6, n6, c6, ⟨l6, (setCells_chg _ 0 _).blk g1 he, hn6, (hw6.set _ _ _).set _ _ _⟩, ⟨l7, blk6 g2, hn7, (hw7.set _ _ _).set _ _ _⟩⟩
theorem below_cells {lo b : Nat} {W0 W : World} (h : Below lo W0 W) (hl : lo ≤ b) (o : Nat) (vs : List Value) (hs : lo ≤ W.heap.size) : Below lo W0 (W.setCells b o vs) := (setCells_chg vs o W).below h hs (fun x _ e => by have e2 : x = b := e; omega)
theorem size_mb7 : (Tryz.prog.info? 44).map (·.size) = some 7 := by kernel_rfl
def KS (w6 : World) (q6 : Nat) (A8 : Option Addr) (n8 c8 q7 : Nat) (A7 : Option Addr) (n7 c7 : Nat) (W : World) : Prop := MBox w6.heap.size q6 A8 n8 c8 W ∧ MBox w6.heap.size q7 A7 n7 c7 W ∧ Below w6.heap.size w6 W
section
variable {w6 W W' : World} {q6 n8 c8 q7 n7 c7 : Nat} {A8 A7 : Option Addr}
theorem KS.later (h : KS w6 q6 A8 n8 c8 q7 A7 n7 c7 W) (b : Below W.heap.size W W') : KS w6 q6 A8 n8 c8 q7 A7 n7 c7 W' := ⟨h.1.later b, h.2.1.later b, h.2.2.then_ b⟩
theorem KS.put {b : Nat} {cs : List Value} (h : KS w6 q6 A8 n8 c8 q7 A7 n7 c7 W) (hb : Blk W b 44 cs) (hl : w6.heap.size ≤ b) (o : Nat) (vs : List Value) : KS w6 q6 A8 n8 c8 q7 A7 n7 c7 (W.setCells b o vs) :=
  ⟨h.1.set hb o vs, h.2.1.set hb o vs, below_cells h.2.2 hl o vs h.2.2.size⟩
end
def XS (w6 : World) (q : Nat) (v : Jv) (A B : Option Addr) (nl cl nm cm : Nat) (W : World) : Prop :=
  Blk W q 25 [.int .i64 v.kd, .bool v.is, .int .i64 v.n, .string ⟨v.s.toArray⟩, .slice A nl cl, .slice B nm cm] ∧ (∃ T, Wri w6.heap.size 6 T A nl W) ∧ (∃ T, Wri w6.heap.size 7 T B nm W) ∧ (∀ a : Addr, (A = some a ∨ B = some a) → a.block ≠ q) ∧ w6.heap.size ≤ q ∧ (nl ≤ 140737488355328 ∧ nm ≤ 140737488355328) ∧ Below w6.heap.size w6 W
section
variable {w6 W W' : World} {q : Nat} {v : Jv} {A B : Option Addr} {nl cl nm cm : Nat}
theorem XS.later (h : XS w6 q v A B nl cl nm cm W) (b : Below W.heap.size W W') : XS w6 q v A B nl cl nm cm W' :=
  ⟨h.1.later b, h.2.1.elim fun T h => ⟨T, h.later b⟩, h.2.2.1.elim fun T h => ⟨T, h.later b⟩, h.2.2.2.1, h.2.2.2.2.1, h.2.2.2.2.2.1, h.2.2.2.2.2.2.then_ b⟩
theorem XS.put {b : Nat} (h : XS w6 q v A B nl cl nm cm W) (hb : b ≠ q) (hl : w6.heap.size ≤ b) (o : Nat) (vs : List Value) : XS w6 q v A B nl cl nm cm (W.setCells b o vs) :=
  ⟨(setCells_chg vs o W).blk h.1 (fun e => hb (by have e2 : q = b := e; exact e2.symm)), h.2.1.elim fun T h => ⟨T, h.set _ _ _⟩, h.2.2.1.elim fun T h => ⟨T, h.set _ _ _⟩, h.2.2.2.1, h.2.2.2.2.1, h.2.2.2.2.2.1, below_cells h.2.2.2.2.2.2 hl o vs h.2.2.2.2.2.2.size⟩
theorem XS.rowL {i : Nat} (h : XS w6 q v A B nl cl nm cm W) (hi : i < nl) : ∃ b o, A = some ⟨b, o, none⟩ ∧ w6.heap.size ≤ b ∧ b ≠ q ∧ W.there b (o + i * 6) 6 := by
  obtain ⟨T, hw⟩ := h.2.1
  obtain ⟨b, o, cs, e, h1, h2, h3⟩ := hw.row hi
  exact ⟨b, o, e, h1, h.2.2.2.1 _ (.inl e), h3⟩
theorem XS.rowM {i : Nat} (h : XS w6 q v A B nl cl nm cm W) (hi : i < nm) : ∃ b o, B = some ⟨b, o, none⟩ ∧ w6.heap.size ≤ b ∧ b ≠ q ∧ W.there b (o + i * 7) 7 := by
  obtain ⟨T, hw⟩ := h.2.2.1
  obtain ⟨b, o, cs, e, h1, h2, h3⟩ := hw.row hi
  exact ⟨b, o, e, h1, h.2.2.2.1 _ (.inr e), h3⟩
end
theorem parseU_at {s : List UInt8} {v : Jv} {x : Int} (w : World) (hp : parF s = (v, x)) (hE : ErrC w) (hl : s.length ≤ 140737488355328) : Calls Tryz.prog 8 #[.string ⟨s.toArray⟩] w fun e w' =>
    ∃ A B nl cl nm cm, e = .returned (.tuple #[.agg #[.int .i64 v.kd, .bool v.is, .int .i64 v.n, .string ⟨v.s.toArray⟩, .slice A nl cl, .slice B nm cm], .int .i64 x]) ∧ VOk w' v A B nl cl nm cm ∧ VPar (fun b => w.heap.size ≤ b ∧ b < w'.heap.size) w' v A B nl cl nm cm ∧ UnfV w' (fun b => w.heap.size ≤ b ∧ b < w'.heap.size) A B ∧ Below w.heap.size w w' := by
  refine (parse_calls s w hE hl).mono ?_
  rintro e w' ⟨A, B, nl, cl, nm, cm, rfl, hv, hb, hu⟩
  rw [hp] at hv ⊢
  exact ⟨A, B, nl, cl, nm, cm, rfl, VPar.ok hv (fun b hb => hb.2), hv, hu, hb⟩
theorem XS.new {w6 w10 W : World} {v : Jv} {A B : Option Addr} {nl cl nm cm : Nat} (hb : Below w6.heap.size w6 W) (h10 : w6.heap.size ≤ w10.heap.size) (hv : VOk W v A B nl cl nm cm) (hp : VPar (fun b => w10.heap.size ≤ b ∧ b < W.heap.size) W v A B nl cl nm cm) (hu : UnfV W (fun b => w10.heap.size ≤ b ∧ b < W.heap.size) A B) :
    XS w6 W.heap.size v A B nl cl nm cm (W.alloc (.cells #[.int .i64 v.kd, .bool v.is, .int .i64 v.n, .string ⟨v.s.toArray⟩, .slice A nl cl, .slice B nm cm] 25)) := by
  have hA : Below W.heap.size W (W.alloc (.cells #[.int .i64 v.kd, .bool v.is, .int .i64 v.n, .string ⟨v.s.toArray⟩, .slice A nl cl, .slice B nm cm] 25)) := (Below.refl _ _).alloc (Nat.le_refl _) _
  obtain ⟨T1, h1⟩ := wri_l (lo := w6.heap.size) hp.1 hp.2.2.1 (fun b hb => Nat.le_trans h10 hb.1) (fun a ha => (hu a (.inl ha)).2)
  obtain ⟨T2, h2⟩ := wri_m (lo := w6.heap.size) hp.2.1 hp.2.2.2.1 (fun b hb => Nat.le_trans h10 hb.1) (fun a ha => (hu a (.inr ha)).2)
  exact ⟨Blk.new _ _ _, ⟨T1, h1.later hA⟩, ⟨T2, h2.later hA⟩, fun a ha => Nat.ne_of_lt (hu a ha).1.2, hb.size, ⟨hp.1.2.2, hp.2.1.2.2⟩, hb.then_ hA⟩
def XS2 (w : World) (q : Nat) (v : Jv) (A B : Option Addr) (nl cl nm cm : Nat) (W : World) : Prop := Below w.heap.size w W ∧ Blk W q 25 [.int .i64 v.kd, .bool v.is, .int .i64 v.n, .string ⟨v.s.toArray⟩, .slice A nl cl, .slice B nm cm] ∧ VOk W v A B nl cl nm cm
theorem XS2.later {w W W' : World} {q : Nat} {v : Jv} {A B : Option Addr} {nl cl nm cm : Nat} (h : XS2 w q v A B nl cl nm cm W) (b : Below W.heap.size W W') : XS2 w q v A B nl cl nm cm W' := ⟨h.1.then_ b, h.2.1.later b, h.2.2.below b⟩
theorem XS2.mk {w w1 W : World} {q : Nat} {v : Jv} {A B : Option Addr} {nl cl nm cm : Nat} {a0 a1 a2 a3 a4 a5 : Value} (hb : Below w.heap.size w W) (hq : w.heap.size ≤ q) (h : Blk W q 25 [a0, a1, a2, a3, a4, a5]) (hv : VPar (fun b => w1.heap.size ≤ b ∧ b < W.heap.size) W v A B nl cl nm cm) (hl : q < w1.heap.size) :
    XS2 w q v A B nl cl nm cm (set6 W q (.int .i64 v.kd) (.bool v.is) (.int .i64 v.n) (.string ⟨v.s.toArray⟩) (.slice A nl cl) (.slice B nm cm)) :=
  ⟨below6 hb hq, blk6 h, hv.1, hv.2.1, hv.2.2.1.stay (fun b o hb => cell_set6 (by have := hb.1; omega)) (fun b hb => Nat.lt_of_lt_of_le hb.2 (size_set6 ..)), hv.2.2.2.1.stay (fun b o hb => cell_set6 (by have := hb.1; omega)) (fun b hb => Nat.lt_of_lt_of_le hb.2 (size_set6 ..)), hv.2.2.2.2⟩
theorem VNs.ok9 {lo : Nat} {w : World} {v : Jv} {A B : Option Addr} {nl cl nm cm : Nat} (h : VNs lo w v A B nl cl nm cm) : VOk w v A B nl cl nm cm :=
  ⟨h.1, h.2.1, h.2.2.1.stay (fun _ _ _ => rfl) (fun _ hb => hb.2), h.2.2.2.1.stay (fun _ _ _ => rfl) (fun _ hb => hb.2), h.2.2.2.2⟩
theorem TabP.wk9 {w : World} (h : TabP w) : Wk w.heap.size w := ⟨h.2, h.1.pow, Nat.le_refl _⟩
theorem refparse_at {s : List UInt8} {v : Jv} {x : Int} (w : World) (hp : parF s = (v, x)) (hT : TabP w) (hl : s.length ≤ 140737488355328) : Calls Tryz.prog 9 #[.string ⟨s.toArray⟩] w fun e w' =>
    ∃ A B nl cl nm cm, e = .returned (.tuple #[.agg #[.int .i64 v.kd, .bool v.is, .int .i64 v.n, .string ⟨v.s.toArray⟩, .slice A nl cl, .slice B nm cm], .int .i64 x]) ∧ VOk w' v A B nl cl nm cm ∧ Below w.heap.size w w' := by
  refine (refparse_calls w.heap.size s w hl hT.wk9).mono ?_
  rintro e w' ⟨A, B, nl, cl, nm, cm, rfl, hv, hb⟩
  rw [hp] at hv ⊢
  exact ⟨A, B, nl, cl, nm, cm, rfl, hv.ok9, hb⟩
end Go.Proofs.YtajkgcmopmpihaaGreatDoor
namespace Go.Proofs.YtajkgcmopmpihaaGreatDoor
open Go.ChangeShapes Go.WideShapes Go.ChangeAt Go.RowKit Go.IntWalk
set_option linter.unusedVariables false
set_option maxRecDepth 100000
def alS : List UInt8 := [123, 34, 98, 34, 58, 49, 44, 32, 34, 97, 34, 58, 91, 116, 114, 117, 101, 93, 125]
def alV : Jv := mapV (.cons [97] 4 false 0 [] (.cons [] 1 true 0 [] .nil .nil .nil) .nil (.cons [98] 2 false 1 [] .nil .nil .nil))
def alT : List UInt8 := [123, 34, 97, 34, 58, 91, 116, 114, 117, 101, 93, 44, 34, 98, 34, 58, 49, 125]
theorem par_al : parF alS = (alV, 0) := by kernel_rfl
theorem par_10 : parF [49, 46, 48] = (nullJ, 7) := by kernel_rfl
theorem can_al : canF alV = (alT, 0) := by kernel_rfl
theorem canon_at {w : World} {v : Jv} {A B : Option Addr} {nl cl nm cm : Nat} (h : VOk w v A B nl cl nm cm) (hT : TabJ w) {b : List UInt8} {x : Int} (hc : canF v = (b, x)) :
    Calls Tryz.prog 11 #[.agg #[.int .i64 v.kd, .bool v.is, .int .i64 v.n, .string ⟨v.s.toArray⟩, .slice A nl cl, .slice B nm cm]] w fun e w' => e = .returned (.tuple #[.string ⟨b.toArray⟩, .int .i64 x]) ∧ Below w.heap.size w w' := by
  have := canon_calls v A B nl cl nm cm w h.1 h.2.1 h.2.2.1 h.2.2.2.1 h.2.2.2.2 hT.pow
  unfold CanPost at this
  rw [hc] at this
  exact this
set_option maxHeartbeats 4000000 in
theorem alive9_calls (w : World) (hE : ErrC w) (hT : TabJ w) : Calls Tryz.prog 15 #[] w fun e w' => e = .returned (.bool true) ∧ Below w.heap.size w w' := by
  have H := Lib.hid (And.intro hE hT)
  clear hE hT
  go_enter Tryz.func15, Tryz.ntmps15
  go_wp2_with fail
  refine (parse_at (s := alS) w par_al H.out.1 (by decide)).mono ?_
  rintro e w1 ⟨A, B, nl, cl, nm, cm, rfl, hv, _, b1⟩
  have H1 := Lib.hid (And.intro hv b1)
  clear hv b1
  go_wp2_with fail
  have bA : Below w1.heap.size w1 (w1.alloc (.cells #[.int .i64 alV.kd, .bool alV.is, .int .i64 alV.n, .string ⟨alV.s.toArray⟩, .slice A nl cl, .slice B nm cm] 25)) := (Below.refl _ _).alloc (Nat.le_refl _) _
  refine (canon_at (H1.out.1.below bA) (H.out.2.below (H1.out.2.then_ bA)) can_al).mono ?_
  rintro e w2 ⟨rfl, b2⟩
  have H2 := Lib.hid ((H1.out.2.then_ bA).then_ b2)
  clear b2 bA
  go_wp2_with fail
  refine (parse_at (s := [49, 46, 48]) w2 par_10 (H.out.1.later H2.out) (by decide)).mono ?_
  rintro e w3 ⟨A3, B3, nl3, cl3, nm3, cm3, rfl, hv3, _, b3⟩
  have H3 := Lib.hid (H2.out.then_ b3)
  clear b3 hv3
  have hT : ((⟨alT.toArray⟩ : ByteArray) == ⟨#[123, 34, 97, 34, 58, 91, 116, 114, 117, 101, 93, 44, 34, 98, 34, 58, 49, 125]⟩) = true := by kernel_rfl
  go_wp2_with fail
  go_ret
  exact ⟨rfl, H3.out.then_ ((Below.refl _ _).alloc (Nat.le_refl _) _)⟩
end Go.Proofs.YtajkgcmopmpihaaGreatDoor
namespace Go.Proofs.YtajkgcmopmpihaaGreatDoor
open Go.Lib
set_option linter.unusedVariables false
end Go.Proofs.YtajkgcmopmpihaaGreatDoor
namespace Go.Proofs.YtajkgcmopmpihaaGreatDoor
open Go.ChangeShapes Go.WideShapes Go.ChangeAt Go.RowKit Go.IntWalk
set_option linter.unusedVariables false
set_option maxRecDepth 100000
end Go.Proofs.YtajkgcmopmpihaaGreatDoor
