/- Texts put together: JrC JvT6 JrF. -/
import Derived.Test.YtkbcbikilgcckaaGreatDoorZae04991262
import Derived.Deep.RegionHeld3
import Derived.Test.YtkbcbikilgcckaaGreatDoorZ00b29111f0
import Derived.Test.YtkbcbikilgcckaaGreatDoorZcf87a46e79
import Derived.Test.YtkbcbikilgcckaaGreatDoorZ743de5d206
namespace Go.Proofs.YtkbcbikilgcckaaGreatDoor
open Go.ChangeShapes Go.WideShapes Go.ChangeAt Go.RowKit Go.IntWalk
set_option linter.unusedVariables false
set_option maxRecDepth 100000

def tpiK : List UInt8 := [116, 104, 105, 114, 100, 95, 112, 97, 114, 116, 121, 95, 105, 110, 118, 105, 116, 101]
def sgnK : List UInt8 := [115, 105, 103, 110, 101, 100]
def finJ (kind : List UInt8) (v : Jv) (t : JT) : JT := if kind = kind0 then (match getJ ((getJ v tpiK).getD nullV) sgnK with
  | some s => t.snoc tpiK (mapV (JT.one sgnK s .nil))
  | none => t) else t
def contJ (kind : List UInt8) (v : Jv) : Jv := if kind = [109, 46, 114, 111, 111, 109, 46, 99, 114, 101, 97, 116, 101] then v else mapV (finJ kind v (outJ v (staysL kind) .nil))
/-- As CtPost; its parts lie in new memory. -/
def CnPost (u : Jv) (w : World) (e : Ending) (w' : World) : Prop := (∃ (A B : Option Addr) (nl cl nm cm : Nat), e = .returned (.agg #[.int .i64 u.kd, .bool u.is, .int .i64 u.n, .string ⟨u.s.toArray⟩, .slice A nl cl, .slice B nm cm]) ∧ VNew w.heap.size w' u A B nl cl nm cm) ∧ Below w.heap.size w w'
def CtPost (u : Jv) (w : World) (e : Ending) (w' : World) : Prop := (∃ (A B : Option Addr) (nl cl nm cm : Nat), e = .returned (.agg #[.int .i64 u.kd, .bool u.is, .int .i64 u.n, .string ⟨u.s.toArray⟩, .slice A nl cl, .slice B nm cm]) ∧ VOk w' u A B nl cl nm cm) ∧ Below w.heap.size w w'
/-- The box that the loop turns. -/
def OutSt (G Z : Nat) (v : Jv) (ks kx : List (List UInt8)) (OUT : JT) (k : Nat) (wr : World) : Prop := ∃ (t : JT) (B : Option Addr) (nm cm : Nat), Blk wr G 25 [.int .i64 5, .bool false, .int .i64 0, .string ⟨#[]⟩, .slice none 0 0, .slice B nm cm] ∧ VPar (fun b => (b ≠ G ∧ Z < b) ∧ b < wr.heap.size) wr (mapV t) none B 0 0 nm cm ∧
  outJ v (ks.drop k) t = OUT ∧ OkT t (kx.drop k) ∧ t.ext ≤ k
theorem staysX_sorted (k : List UInt8) : SortK (staysL k ++ (if k = kind0 then [tpiK] else [])) := by
  by_cases h : k = kind0
  · rw [if_pos h, h]; unfold staysL SortK; rw [if_pos rfl]; decide
  · rw [if_neg h, List.append_nil]; exact stays_sorted k
theorem row7r {P : Nat → Prop} {w : World} {g : Nat} {T : TypeId} {k s : List UInt8} {kd n : Int} {is : Bool} {A B : Option Addr} {nl cl nm cm : Nat} {l m : JT}
    (h : Blk w g T [strV k, .int .i64 kd, .bool is, .int .i64 n, strV s, .slice A nl cl, .slice B nm cm]) (hk : k.length ≤ 140737488355328) (hl : Room nl cl l.ext) (hm : Room nm cm m.ext)
    (h1 : JSl P w false A l) (h2 : JSl P w true B m) (hf : Fit kd n s) : JIn P w true g 0 (.cons k kd is n s l m .nil) :=
  ⟨⟨h.cell rfl, hk⟩, ⟨A, nl, cl, B, nm, cm, (fun j v hj => by
      have := h.rng (j + 1) v (by simpa using hj)
      rw [show 0 + (j + 1) = 0 + kwM true + j by show 0 + (j + 1) = 0 + 1 + j; omega] at this
      exact this), hl, hm, h1, h2⟩, hf, trivial⟩
theorem getD_ok {v : Jv} {key : List UInt8} (h : risV v = true) (hb : v.bulk ≤ 50000) : risV ((getJ v key).getD nullV) = true ∧ ((getJ v key).getD nullV).bulk ≤ 50000 := by
  rw [getJ_pos (rise_top h)]
  cases hf : ffndJ v key with
  | false => exact ⟨rfl, show nullV.bulk ≤ 50000 by decide⟩
  | true =>
    have hl := ffndJ_lt hf
    unfold risV at h
    rw [Bool.and_eq_true] at h
    exact ⟨ris_fall true v.m none _ h.1 hl, Nat.le_trans (JT.bulk_val v.m _ hl) (by unfold Jv.bulk at hb; omega)⟩
def ROk (G Z : Nat) (w9 : World) (t : JT) (e : Ending) (w' : World) : Prop :=
  (∃ (B : Option Addr) (nm cm : Nat), e = .returned (.agg #[.int .i64 5, .bool false, .int .i64 0, .string ⟨#[]⟩, .slice none 0 0, .slice B nm cm]) ∧ VPar (fun b => (b ≠ G ∧ Z < b) ∧ b < w'.heap.size) w' (mapV t) none B 0 0 nm cm) ∧ Below w9.heap.size w9 w'
theorem rok_of {G Z : Nat} {w9 W w' : World} {t : JT} {e : Ending} (h : PutPostM (fun b => (b ≠ G ∧ Z < b) ∧ b < W.heap.size) t W e w') (hW : Below w9.heap.size w9 W) (hg : G < w9.heap.size) (hz : Z < w9.heap.size) : ROk G Z w9 t e w' := by
  obtain ⟨⟨B, nm, cm, he, hp⟩, hb⟩ := h
  refine ⟨⟨B, nm, cm, he, hp.to (fun _ _ _ => rfl) (fun b hb2 => ?_)⟩, hW.then_ hb⟩
  rcases hb2 with h2 | h2
  · exact ⟨h2.1, Nat.lt_of_lt_of_le h2.2 hb.size⟩
  · have h3 := h2.1; have h4 := hW.size; exact ⟨⟨by omega, by omega⟩, h2.2⟩
def KeysIn (AK : Option Addr) (G : Nat) (ks : List (List UInt8)) (w : World) : Prop := ∀ i (h : i < ks.length), ∃ g, AK = some ⟨g, 0, none⟩ ∧ G < g ∧ g < w.heap.size ∧ w.cell? ⟨g, i, none⟩ = some (.string ⟨(ks[i]).toArray⟩)
theorem KeysIn.up {AK : Option Addr} {G : Nat} {ks : List (List UInt8)} {w w' : World} (h : KeysIn AK G ks w) (b : Below w.heap.size w w') : KeysIn AK G ks w' := fun i hi => by
  obtain ⟨g, h1, h2, h3, h4⟩ := h i hi
  exact ⟨g, h1, h2, Nat.lt_of_lt_of_le h3 b.size, (b.cell (p := ⟨g, i, none⟩) h3).trans h4⟩
set_option maxHeartbeats 16000000 in
theorem contentN_calls (kind : List UInt8) (v : Jv) (A0 B0 : Option Addr) (nl0 cl0 nm0 cm0 : Nat) (w : World) (hv : VOk w v A0 B0 nl0 cl0 nm0 cm0) (hr : risV v = true) (hbk : v.bulk ≤ 50000) :
    Calls Tryz.prog 15 #[.string ⟨kind.toArray⟩, .agg #[.int .i64 v.kd, .bool v.is, .int .i64 v.n, .string ⟨v.s.toArray⟩, .slice A0 nl0 cl0, .slice B0 nm0 cm0]] w (CnPost (contJ kind v) w) := by
  have b2 : Below w.heap.size w ((w.alloc (.cells #[.int .i64 v.kd, .bool v.is, .int .i64 v.n, .string ⟨v.s.toArray⟩, .slice A0 nl0 cl0, .slice B0 nm0 cm0] 25)).alloc (.cells #[.int .i64 0, .bool false, .int .i64 0, .string ⟨#[]⟩, .slice none 0 0, .slice none 0 0] 25)) := ((Below.refl _ _).alloc (Nat.le_refl _) _).alloc (by simp) _
  have hx : Blk ((w.alloc (.cells #[.int .i64 v.kd, .bool v.is, .int .i64 v.n, .string ⟨v.s.toArray⟩, .slice A0 nl0 cl0, .slice B0 nm0 cm0] 25)).alloc (.cells #[.int .i64 0, .bool false, .int .i64 0, .string ⟨#[]⟩, .slice none 0 0, .slice none 0 0] 25)) w.heap.size 25 [.int .i64 v.kd, .bool v.is, .int .i64 v.n, .string ⟨v.s.toArray⟩, .slice A0 nl0 cl0, .slice B0 nm0 cm0] := (Blk.new w [.int .i64 v.kd, .bool v.is, .int .i64 v.n, .string ⟨v.s.toArray⟩, .slice A0 nl0 cl0, .slice B0 nm0 cm0] 25).alloc _
  have hz : Blk ((w.alloc (.cells #[.int .i64 v.kd, .bool v.is, .int .i64 v.n, .string ⟨v.s.toArray⟩, .slice A0 nl0 cl0, .slice B0 nm0 cm0] 25)).alloc (.cells #[.int .i64 0, .bool false, .int .i64 0, .string ⟨#[]⟩, .slice none 0 0, .slice none 0 0] 25)) (w.heap.size + 1) 25 [.int .i64 0, .bool false, .int .i64 0, .string ⟨#[]⟩, .slice none 0 0, .slice none 0 0] := by have h := Blk.new (w.alloc (.cells #[.int .i64 v.kd, .bool v.is, .int .i64 v.n, .string ⟨v.s.toArray⟩, .slice A0 nl0 cl0, .slice B0 nm0 cm0] 25)) [.int .i64 0, .bool false, .int .i64 0, .string ⟨#[]⟩, .slice none 0 0, .slice none 0 0] 25; rw [show (w.alloc (.cells #[.int .i64 v.kd, .bool v.is, .int .i64 v.n, .string ⟨v.s.toArray⟩, .slice A0 nl0 cl0, .slice B0 nm0 cm0] 25)).heap.size = w.heap.size + 1 by simp] at h; exact h
  have HB := Lib.hid b2
  have HX := Lib.hid hx
  have HZ := Lib.hid hz
  have HV := Lib.hid (hv.below b2)
  have HV0 := Lib.hid hv
  have HRB := Lib.hid (And.intro hr hbk)
  obtain ⟨d0, d1, d2, d3, d4, d5, _⟩ := cells6s hx
  by_cases hc : kind = [109, 46, 114, 111, 111, 109, 46, 99, 114, 101, 97, 116, 101]
  · have hcb : (kind == [109, 46, 114, 111, 111, 109, 46, 99, 114, 101, 97, 116, 101]) = true := by rw [beq_iff_eq]; exact hc
    have HE := Lib.hid (show contJ kind v = v by unfold contJ; rw [if_pos hc])
    have HC := Lib.hid (fresh_calls v A0 B0 nl0 cl0 nm0 cm0 _ HV.out hbk)
    clear b2 hx hz hv hr hbk hc
    go_enter Tryz.func15, Tryz.ntmps15
    go_wp2_with fail
    refine HC.out.mono ?_
    rintro e w3 ⟨⟨A, B, nl, cl, nm, cm, rfl, hn⟩, b3⟩
    have HZ3 := Lib.hid (HZ.out.later b3)
    have HB3 := Lib.hid (HB.out.then_ b3)
    have HN := Lib.hid (And.intro hn HZ.out.lt)
    obtain ⟨z0, z1, z2, z3, z4, z5, y0, y1, y2, y3, y4, y5⟩ := cells6s HZ3.out
    clear hn b3 d0 d1 d2 d3 d4 d5
    go_wp2_with fail
    rw [HE.out]
    exact bodyPost_ret (res_cell6 rfl _ ⟨w.heap.size + 1, 0, none⟩ _ _ rfl (Blk.load (blk6o (o := 0) HZ3.out) _ Tryz.underlying25 rfl size_v6)) rfl ⟨⟨A, B, nl, cl, nm, cm, rfl, (HN.out.1.set6 HN.out.2).lower HB.out.size⟩, below6o HB3.out (by omega)⟩
  · have hcb : (kind == [109, 46, 114, 111, 111, 109, 46, 99, 114, 101, 97, 116, 101]) = false := by rw [beq_eq_false_iff_ne]; exact hc
    obtain ⟨ks, hks⟩ : ∃ ks, staysL kind = ks := ⟨_, rfl⟩
    obtain ⟨OUT, hout⟩ : ∃ OUT, outJ v ks .nil = OUT := ⟨_, rfl⟩
    have HE := Lib.hid (show contJ kind v = mapV (finJ kind v OUT) by unfold contJ; rw [if_neg hc, hks, hout])
    have HKS := Lib.hid (show SortK ks ∧ ks.length ≤ 9 ∧ ∀ x ∈ ks, x.length ≤ 100 by rw [← hks]; exact ⟨stays_sorted _, stays_len _, stays_short _⟩)
    obtain ⟨ex, hex⟩ : ∃ ex, (if kind = kind0 then [tpiK] else []) = ex := ⟨_, rfl⟩
    obtain ⟨kx, hkx⟩ : ∃ kx, ks ++ ex = kx := ⟨_, rfl⟩
    have HKX := Lib.hid (show SortK kx ∧ (∀ k (h : k < ks.length), kx.drop k = ks[k] :: kx.drop (k + 1)) ∧ kx.drop ks.length = ex by
      refine ⟨by rw [← hkx, ← hks, ← hex]; exact staysX_sorted kind, fun k h => ?_, by rw [← hkx, List.drop_left]⟩
      rw [← hkx, List.drop_eq_getElem_cons (by rw [List.length_append]; omega), List.getElem_append_left h])
    have HEX := Lib.hid hex
    have hst := stays_calls kind
    rw [hks] at hst
    have HST := Lib.hid hst
    have HOUT := Lib.hid hout
    have HMP := Lib.hid (map_calls (fun _ => False) none 0 0 .nil ((w.alloc (.cells #[.int .i64 v.kd, .bool v.is, .int .i64 v.n, .string ⟨v.s.toArray⟩, .slice A0 nl0 cl0, .slice B0 nm0 cm0] 25)).alloc (.cells #[.int .i64 0, .bool false, .int .i64 0, .string ⟨#[]⟩, .slice none 0 0, .slice none 0 0] 25)) (fun _ h => h.elim) rfl (Nat.zero_le _) (.inl rfl))
    clear b2 hx hz hv hr hbk hc hks hout hst hex hkx
    go_enter Tryz.func15, Tryz.ntmps15
    go_wp2_with fail
    refine HMP.out.mono ?_
    rintro e w3 ⟨⟨B, nm, cm, rfl, hm3⟩, b3⟩
    have b4 : Below w3.heap.size w3 (w3.alloc (.cells #[.int .i64 5, .bool false, .int .i64 0, .string ⟨#[]⟩, .slice none 0 0, .slice B nm cm] 25)) := (Below.refl _ _).alloc (Nat.le_refl _) _
    have HO4 := Lib.hid (Blk.new w3 [.int .i64 5, .bool false, .int .i64 0, .string ⟨#[]⟩, .slice none 0 0, .slice B nm cm] 25)
    have HB4 := Lib.hid (HB.out.then_ (b3.then_ b4))
    have HX4 := Lib.hid (HX.out.later (b3.then_ b4))
    have HZ4 := Lib.hid (HZ.out.later (b3.then_ b4))
    have HM4 := Lib.hid (hm3.to (w' := w3.alloc (.cells #[.int .i64 5, .bool false, .int .i64 0, .string ⟨#[]⟩, .slice none 0 0, .slice B nm cm] 25)) (Q := fun b => (b ≠ w3.heap.size ∧ w.heap.size + 1 < b) ∧ b < w3.heap.size) (fun b o hb => b4.cell (p := ⟨b, o, none⟩) (by rcases hb with h | h; { exact h.elim }; { exact h.2 })) (fun b hb => by rcases hb with h | h; { exact h.elim }; { exact ⟨⟨by have := h.2; omega, by have h1 := h.1; simp at h1; omega⟩, h.2⟩ }))
    have HW3 := Lib.hid (show w.heap.size + 2 ≤ w3.heap.size from Nat.lt_of_lt_of_le HZ.out.lt b3.size)
    clear b3 b4 hm3 d0 d1 d2 d3 d4 d5 HMP
    go_wp2_with fail
    refine (HST.out _).mono ?_
    rintro e w5 ⟨⟨AK, rfl, hkc⟩, b5⟩
    obtain ⟨G, hG⟩ : ∃ G, w3.heap.size = G := ⟨_, rfl⟩
    have HKC := Lib.hid (show ∀ i (h : i < ks.length), ∃ g, AK = some ⟨g, 0, none⟩ ∧ G < g ∧ g < w5.heap.size ∧ w5.cell? ⟨g, i, none⟩ = some (.string ⟨(ks[i]).toArray⟩) from fun i h => by
      obtain ⟨g, h1, h2, h3, h4⟩ := hkc i h
      exact ⟨g, h1, by rw [← hG]; simp at h2; omega, h3, h4⟩)
    have HOS := Lib.hid (show OutSt G (w.heap.size + 1) v ks kx OUT 0 w5 from ⟨.nil, B, nm, cm, by rw [← hG]; exact HO4.out.later b5, by rw [← hG]; exact HM4.out.to (fun b o hb => b5.cell (p := ⟨b, o, none⟩) (by have := hb.2; simp; omega)) (fun b hb => ⟨hb.1, by have h1 := b5.size; have := hb.2; simp at h1; omega⟩), HOUT.out, OkT.nil _, Nat.le_refl _⟩)
    have HB5 := Lib.hid (HB4.out.then_ b5)
    have HXZ5 := Lib.hid (And.intro (HX4.out.later b5) (HZ4.out.later b5))
    have HWG := Lib.hid (show w.heap.size + 2 ≤ G by rw [← hG]; exact HW3.out)
    rw [hG]
    clear hkc b5 HO4 HB4 HX4 HZ4 HM4 HW3 hG
    go_wp2_with fail
    have hn9 : ks.length ≤ 9 := HKS.out.2.1
    go_loopw [22] (fun i wr => ∃ k : Nat, k ≤ ks.length ∧ i = .int .i64 (k : Int) ∧ Hid (Below w.heap.size w wr) ∧ Hid (Blk wr w.heap.size 25 [.int .i64 v.kd, .bool v.is, .int .i64 v.n, .string ⟨v.s.toArray⟩, .slice A0 nl0 cl0, .slice B0 nm0 cm0] ∧ Blk wr (w.heap.size + 1) 25 [.int .i64 0, .bool false, .int .i64 0, .string ⟨#[]⟩, .slice none 0 0, .slice none 0 0]) ∧ Hid (KeysIn AK G ks wr) ∧ Hid (OutSt G (w.heap.size + 1) v ks kx OUT k wr)) (fun i _ => ks.length - (intOf i).toNat)
    case atStart => exact ⟨0, Nat.zero_le _, rfl, HB5, HXZ5, HKC, HOS⟩
    case round =>
      obtain ⟨k, hk, rfl, hBr, hXr, hKr, hOr⟩ := hrel
      by_cases hlt : k < ks.length
      · obtain ⟨g, hgk, hg1, hg2, hg3⟩ := hKr.out k hlt
        subst hgk
        obtain ⟨t, B1, nm1, cm1, hO, hM, ho, hok, hext⟩ := hOr.out
        have hoa := outJ_at v hlt t
        have hdk := HKX.out.2.1 k hlt
        have hmem := HKS.out.2.2 ks[k] (List.getElem_mem hlt)
        have hsrt : SortK (ks[k] :: kx.drop (k + 1)) := by rw [← hdk]; exact HKX.out.1.sublist (List.drop_sublist _ _)
        rw [hdk] at hok
        have hstp := OkT.step (v := v) hsrt hok
        have hpos := OkT.pos hok
        have hsx := stepJ_ext v t ks[k]
        rw [ho] at hoa
        obtain ⟨key, hkey⟩ : ∃ key, ks[k] = key := ⟨_, rfl⟩
        rw [hkey] at hg3 hoa hmem hstp hpos hsx
        have hg := get_calls v A0 B0 nl0 cl0 nm0 cm0 key wr (HV0.out.below hBr.out) (rise_top HRB.out.1) HRB.out.2
        obtain ⟨d0, d1, d2, d3, d4, d5, _⟩ := cells6s hXr.out.1
        have HST1 := Lib.hid (And.intro hoa (And.intro hstp (And.intro hok.1 (And.intro hpos (And.intro (Nat.le_trans hsx (Nat.succ_le_succ hext)) (And.intro hmem hext))))))
        have HOM := Lib.hid (And.intro hO hM)
        have HGW := Lib.hid hO.lt
        clear hoa hdk hsrt hok hstp hpos hsx ho hext hmem hO hM hkey
        cases hgj : getJ v key with
        | none =>
          rw [hgj] at hg
          have HSJ := Lib.hid (show stepJ v t key = t by unfold stepJ; rw [hgj])
          clear hgj
          go_wp2_with fail
          refine hg.mono ?_
          rintro e w6 ⟨⟨u, A2, B2, nl2, cl2, nm2, cm2, hu, rfl, hn6⟩, b6⟩
          have b7 : Below wr.heap.size wr (w6.alloc (.cells #[.int .i64 u.kd, .bool u.is, .int .i64 u.n, .string ⟨u.s.toArray⟩, .slice A2 nl2 cl2, .slice B2 nm2 cm2] 25)) := b6.then_ ((Below.refl _ _).alloc (Nat.le_refl _) _)
          have HB7 := Lib.hid (hBr.out.then_ b7)
          have HX7 := Lib.hid (And.intro (hXr.out.1.later b7) (hXr.out.2.later b7))
          have HK7 := Lib.hid (KeysIn.up hKr.out b7)
          have HO7 := Lib.hid (show OutSt G (w.heap.size + 1) v ks kx OUT (k + 1) (w6.alloc (.cells #[.int .i64 u.kd, .bool u.is, .int .i64 u.n, .string ⟨u.s.toArray⟩, .slice A2 nl2 cl2, .slice B2 nm2 cm2] 25)) from ⟨t, B1, nm1, cm1, HOM.out.1.later b7, HOM.out.2.to (fun b o hb => b7.cell (p := ⟨b, o, none⟩) hb.2) (fun b hb => ⟨hb.1, Nat.lt_of_lt_of_le hb.2 b7.size⟩), by rw [HST1.out.1, HSJ.out], by have h := HST1.out.2.1; rw [HSJ.out] at h; exact h, by have := HST1.out.2.2.2.2.2.2; omega⟩)
          clear b6 b7 hn6 hg d0 d1 d2 d3 d4 d5 hg1 hg2 hg3 hu
          go_wp2_with fail
          go_roundw
          case rel =>
            first
              | exact ⟨k + 1, by omega, by go_num, HB7, HX7, HK7, HO7⟩
              | (repeat apply Exists.intro
                 refine ⟨?e0, ?e1, HB7, HX7, HK7, HO7⟩
                 case e1 => go_num
                 case e0 => omega)
          case measure => simp [intOf]; omega
        | some u =>
          rw [hgj] at hg
          have HSJ := Lib.hid (show stepJ v t key = t.snoc key u by unfold stepJ; rw [hgj])
          clear hgj
          go_wp2_with fail
          refine hg.mono ?_
          rintro e w6 ⟨⟨u', A2, B2, nl2, cl2, nm2, cm2, hu, rfl, hn6⟩, b6⟩
          have hu' : u' = u := hu
          subst hu'
          have b7 : Below wr.heap.size wr (w6.alloc (.cells #[.int .i64 u'.kd, .bool u'.is, .int .i64 u'.n, .string ⟨u'.s.toArray⟩, .slice A2 nl2 cl2, .slice B2 nm2 cm2] 25)) := b6.then_ ((Below.refl _ _).alloc (Nat.le_refl _) _)
          have HB7 := Lib.hid (hBr.out.then_ b7)
          have HX7 := Lib.hid (And.intro (hXr.out.1.later b7) (hXr.out.2.later b7))
          have HK7 := Lib.hid (KeysIn.up hKr.out b7)
          have hO7 := HOM.out.1.later b7
          have hT7 := Blk.new w6 [.int .i64 u'.kd, .bool u'.is, .int .i64 u'.n, .string ⟨u'.s.toArray⟩, .slice A2 nl2 cl2, .slice B2 nm2 cm2] 25
          have HPC := Lib.hid (putM_calls (mapV t) u' none B1 A2 B2 0 0 nm1 cm1 nl2 cl2 nm2 cm2 key (fun b => (b ≠ G ∧ w.heap.size + 1 < b) ∧ b < (w6.alloc (.cells #[.int .i64 u'.kd, .bool u'.is, .int .i64 u'.n, .string ⟨u'.s.toArray⟩, .slice A2 nl2 cl2, .slice B2 nm2 cm2] 25)).heap.size) (w6.alloc (.cells #[.int .i64 u'.kd, .bool u'.is, .int .i64 u'.n, .string ⟨u'.s.toArray⟩, .slice A2 nl2 cl2, .slice B2 nm2 cm2] 25)) (fun b hb => hb.2)
            (HOM.out.2.to (fun b o hb => b7.cell (p := ⟨b, o, none⟩) hb.2) (fun b hb => ⟨hb.1, Nat.lt_of_lt_of_le hb.2 b7.size⟩))
            (VPar.to (P := fun b => wr.heap.size ≤ b ∧ b < w6.heap.size) hn6 (fun b o hb => ((Below.refl _ _).alloc (Nat.le_refl _) _ : Below w6.heap.size w6 (w6.alloc (.cells #[.int .i64 u'.kd, .bool u'.is, .int .i64 u'.n, .string ⟨u'.s.toArray⟩, .slice A2 nl2 cl2, .slice B2 nm2 cm2] 25))).cell (p := ⟨b, o, none⟩) hb.2) (fun b hb => ⟨⟨by have := HGW.out; have := hb.1; omega, by have := HGW.out; have := HWG.out; have := hb.1; omega⟩, by have := hb.2; simp; omega⟩))
            rfl HST1.out.2.2.1 HST1.out.2.2.2.1.1 HST1.out.2.2.2.1.2 (Nat.le_trans HST1.out.2.2.2.2.2.1 (by decide)) (by show t.ext ≤ _; have := HST1.out.2.2.2.2.2.2; omega))
          have HO7 := Lib.hid hO7
          obtain ⟨o0, o1, o2, o3, o4, o5, _⟩ := cells6s hO7
          obtain ⟨q0, q1, q2, q3, q4, q5, _⟩ := cells6s hT7
          clear b6 b7 hn6 hg d0 d1 d2 d3 d4 d5 hg3 hO7 hT7 hu
          go_wp2_with fail
          refine HPC.out.mono ?_
          rintro e w8 ⟨⟨B3, nm3, cm3, rfl, hm8⟩, b8⟩
          have HO8 := Lib.hid (HO7.out.later b8)
          have HGW7 := Lib.hid HO7.out.lt
          have hBx : Below w.heap.size w w8 := HB7.out.then_ b8
          have HB9 := Lib.hid (below6o (g := G) (x0 := .int .i64 5) (x1 := .bool false) (x2 := .int .i64 0) (x3 := .string ⟨#[]⟩) (x4 := .slice none 0 0) (x5 := .slice B3 nm3 cm3) hBx (by have := HWG.out; omega))
          have HX9 := Lib.hid (And.intro (far6o (o := 0) (g := G) (x0 := .int .i64 5) (x1 := .bool false) (x2 := .int .i64 0) (x3 := .string ⟨#[]⟩) (x4 := .slice none 0 0) (x5 := .slice B3 nm3 cm3) (HX7.out.1.later b8) (by have := HWG.out; omega)) (far6o (o := 0) (g := G) (x0 := .int .i64 5) (x1 := .bool false) (x2 := .int .i64 0) (x3 := .string ⟨#[]⟩) (x4 := .slice none 0 0) (x5 := .slice B3 nm3 cm3) (HX7.out.2.later b8) (by have := HWG.out; omega)))
          have HK9 := Lib.hid (show KeysIn (some ⟨g, 0, none⟩) G ks (set6o w8 G 0 (.int .i64 5) (.bool false) (.int .i64 0) (.string ⟨#[]⟩) (.slice none 0 0) (.slice B3 nm3 cm3)) from fun i h => by
            obtain ⟨g', h1, h2, h3, h4⟩ := KeysIn.up HK7.out b8 i h
            exact ⟨g', h1, h2, by rw [size6o]; exact h3, (cell6o (by omega)).trans h4⟩)
          have HO9 := Lib.hid (show OutSt G (w.heap.size + 1) v ks kx OUT (k + 1) (set6o w8 G 0 (.int .i64 5) (.bool false) (.int .i64 0) (.string ⟨#[]⟩) (.slice none 0 0) (.slice B3 nm3 cm3)) from
            ⟨t.snoc key u', B3, nm3, cm3, blk6o (o := 0) HO8.out, hm8.to (fun b o hb => cell6o (by rcases hb with h | h; { exact h.1.1 }; { have := HGW7.out; have := h.1; omega })) (fun b hb => by
              rw [size6o]
              rcases hb with h | h
              · exact ⟨h.1, Nat.lt_of_lt_of_le h.2 b8.size⟩
              · exact ⟨⟨by have := HGW7.out; have := h.1; omega, by have := HGW7.out; have := HWG.out; have := h.1; omega⟩, h.2⟩), by rw [HST1.out.1, HSJ.out], by have h := HST1.out.2.1; rw [HSJ.out] at h; exact h, by have h := HST1.out.2.2.2.2.1; rw [HSJ.out] at h; exact h⟩)
          obtain ⟨z0, z1, z2, z3, z4, z5, y0, y1, y2, y3, y4, y5⟩ := cells6s HO8.out
          clear hm8 b8 hBx o0 o1 o2 o3 o4 o5 q0 q1 q2 q3 q4 q5 hg1 hg2
          go_wp2_with fail
          go_roundw
          case rel =>
            first
              | exact ⟨k + 1, by omega, by go_num, HB9, HX9, HK9, HO9⟩
              | (repeat apply Exists.intro
                 refine ⟨?e0, ?e1, HB9, HX9, HK9, HO9⟩
                 case e1 => go_num
                 case e0 => omega)
          case measure => simp [intOf]; omega
      · obtain rfl : k = ks.length := by omega
        obtain ⟨wq, hwq⟩ : ∃ x, x = wr := ⟨_, rfl⟩
        subst hwq
        obtain ⟨t, B1, nm1, cm1, hO, hM, ho, hok, hext⟩ := hOr.out
        rw [List.drop_length] at ho
        have ho' : t = OUT := ho
        subst ho'
        rw [HKX.out.2.2] at hok
        obtain ⟨z0, z1, z2, z3, z4, z5, y0, y1, y2, y3, y4, y5⟩ := cells6s hXr.out.2
        obtain ⟨d0, d1, d2, d3, d4, d5, _⟩ := cells6s hXr.out.1
        obtain ⟨o0, o1, o2, o3, o4, o5, p0, p1, p2, p3, p4, p5⟩ := cells6s hO
        have HOM := Lib.hid (And.intro hO (And.intro hM (And.intro hok hext)))
        clear hO hM hok hext ho hOr hKr
        by_cases hm : kind = kind0
        · have hm1 : (kind == [109, 46, 114, 111, 111, 109, 46, 109, 101, 109, 98, 101, 114]) = true := by rw [beq_iff_eq]; exact hm
          have hm2 : (kind != [109, 46, 114, 111, 111, 109, 46, 109, 101, 109, 98, 101, 114]) = false := by simp [show kind = [109, 46, 114, 111, 111, 109, 46, 109, 101, 109, 98, 101, 114] from hm]
          have HEX2 := Lib.hid (show ex = [tpiK] by rw [← HEX.out, if_pos hm])
          have hg1 := get_calls v A0 B0 nl0 cl0 nm0 cm0 tpiK wq (HV0.out.below hBr.out) (rise_top HRB.out.1) HRB.out.2
          have hgd := getD_ok (key := tpiK) HRB.out.1 HRB.out.2
          obtain ⟨ui, hui⟩ : ∃ ui, (getJ v tpiK).getD nullV = ui := ⟨_, rfl⟩
          have HF := Lib.hid (show contJ kind v = mapV (match getJ ui sgnK with | some s => t.snoc tpiK (mapV (JT.one sgnK s .nil)) | none => t) by rw [HE.out]; unfold finJ; rw [if_pos hm, hui])
          rw [hui] at hgd
          have HGD := Lib.hid hgd
          have HUI := Lib.hid hui
          have HGQ := Lib.hid HOM.out.1.lt
          clear hm hgd hui
          go_wp2_with fail
          refine hg1.mono ?_
          rintro e w6 ⟨⟨u6, A2, B2, nl2, cl2, nm2, cm2, hu, rfl, hn6⟩, b6⟩
          have hu' : u6 = ui := hu.trans HUI.out
          subst hu'
          have b7 : Below wq.heap.size wq (w6.alloc (.cells #[.int .i64 u6.kd, .bool u6.is, .int .i64 u6.n, .string ⟨u6.s.toArray⟩, .slice A2 nl2 cl2, .slice B2 nm2 cm2] 25)) := b6.then_ ((Below.refl _ _).alloc (Nat.le_refl _) _)
          have hT7 := Blk.new w6 [.int .i64 u6.kd, .bool u6.is, .int .i64 u6.n, .string ⟨u6.s.toArray⟩, .slice A2 nl2 cl2, .slice B2 nm2 cm2] 25
          have hg2 := get_calls u6 A2 B2 nl2 cl2 nm2 cm2 sgnK (w6.alloc (.cells #[.int .i64 u6.kd, .bool u6.is, .int .i64 u6.n, .string ⟨u6.s.toArray⟩, .slice A2 nl2 cl2, .slice B2 nm2 cm2] 25)) (hn6.ok.below ((Below.refl _ _).alloc (Nat.le_refl _) _)) (rise_top HGD.out.1) HGD.out.2
          obtain ⟨q0, q1, q2, q3, q4, q5, _⟩ := cells6s hT7
          have HB7 := Lib.hid b7
          clear b6 b7 hT7 hn6 hg1 hu d0 d1 d2 d3 d4 d5
          cases hgs : getJ u6 sgnK with
          | none =>
            rw [hgs] at hg2
            have HE2 := Lib.hid (show contJ kind v = mapV t by rw [HF.out, hgs])
            clear hgs
            go_wp2_with fail
            refine hg2.mono ?_
            rintro e w8 ⟨⟨us, A3, B3, nl3, cl3, nm3, cm3, hs, rfl, hn8⟩, b8⟩
            have b9 : Below wq.heap.size wq (w8.alloc (.cells #[.int .i64 us.kd, .bool us.is, .int .i64 us.n, .string ⟨us.s.toArray⟩, .slice A3 nl3 cl3, .slice B3 nm3 cm3] 25)) := (HB7.out.then_ b8).then_ ((Below.refl _ _).alloc (Nat.le_refl _) _)
            have HO9 := Lib.hid (HOM.out.1.later b9)
            have HZ9 := Lib.hid (hXr.out.2.later b9)
            have HB9 := Lib.hid (hBr.out.then_ b9)
            have HM9 := Lib.hid (show VPar (fun b => (b ≠ G ∧ w.heap.size + 1 < b) ∧ b < (w8.alloc (.cells #[.int .i64 us.kd, .bool us.is, .int .i64 us.n, .string ⟨us.s.toArray⟩, .slice A3 nl3 cl3, .slice B3 nm3 cm3] 25)).heap.size) (w8.alloc (.cells #[.int .i64 us.kd, .bool us.is, .int .i64 us.n, .string ⟨us.s.toArray⟩, .slice A3 nl3 cl3, .slice B3 nm3 cm3] 25)) (mapV t) none B1 0 0 nm1 cm1 from HOM.out.2.1.to (fun b o hb => b9.cell (p := ⟨b, o, none⟩) hb.2) (fun b hb => ⟨hb.1, Nat.lt_of_lt_of_le hb.2 b9.size⟩))
            clear b8 b9 hn8 hs hg2 q0 q1 q2 q3 q4 q5 o0 o1 o2 o3 o4 o5 p0 p1 p2 p3 p4 p5 z0 z1 z2 z3 z4 z5 y0 y1 y2 y3 y4 y5
            obtain ⟨o0, o1, o2, o3, o4, o5, p0, p1, p2, p3, p4, p5⟩ := cells6s HO9.out
            obtain ⟨z0, z1, z2, z3, z4, z5, y0, y1, y2, y3, y4, y5⟩ := cells6s HZ9.out
            go_wp2_with fail
            rw [HE2.out]
            exact bodyPost_ret (res_cell6 rfl _ ⟨w.heap.size + 1, 0, none⟩ _ _ rfl (Blk.load (blk6o (o := 0) HZ9.out) _ Tryz.underlying25 rfl size_v6)) rfl ⟨⟨none, B1, 0, 0, nm1, cm1, rfl, HM9.out.to (fun b o hb => cell6o (Nat.ne_of_gt hb.1.2)) (fun b hb => ⟨by have := hb.1.2; omega, by show b < (set6o _ _ 0 _ _ _ _ _ _).heap.size; rw [size6o]; exact hb.2⟩)⟩, below6o HB9.out (by omega)⟩
          | some us =>
            rw [hgs] at hg2
            have HE2 := Lib.hid (show contJ kind v = mapV (t.snoc tpiK (mapV (JT.one sgnK us .nil))) by rw [HF.out, hgs])
            clear hgs
            go_wp2_with fail
            refine hg2.mono ?_
            rintro e w8 ⟨⟨us', A3, B3, nl3, cl3, nm3, cm3, hs, rfl, hn8⟩, b8⟩
            have hs' : us' = us := hs
            subst hs'
            have b9 : Below wq.heap.size wq (w8.alloc (.cells #[.int .i64 us'.kd, .bool us'.is, .int .i64 us'.n, .string ⟨us'.s.toArray⟩, .slice A3 nl3 cl3, .slice B3 nm3 cm3] 25)) := (HB7.out.then_ b8).then_ ((Below.refl _ _).alloc (Nat.le_refl _) _)
            have HT9 := Lib.hid (Blk.new w8 [.int .i64 us'.kd, .bool us'.is, .int .i64 us'.n, .string ⟨us'.s.toArray⟩, .slice A3 nl3 cl3, .slice B3 nm3 cm3] 25)
            have HO9 := Lib.hid (HOM.out.1.later b9)
            have HZ9 := Lib.hid (hXr.out.2.later b9)
            have HB9 := Lib.hid (hBr.out.then_ b9)
            have HN8 := Lib.hid (And.intro hn8 (Nat.le_trans HB7.out.size b8.size))
            have HM9 := Lib.hid (show VPar (fun b => (b ≠ G ∧ w.heap.size + 1 < b) ∧ b < (w8.alloc (.cells #[.int .i64 us'.kd, .bool us'.is, .int .i64 us'.n, .string ⟨us'.s.toArray⟩, .slice A3 nl3 cl3, .slice B3 nm3 cm3] 25)).heap.size) (w8.alloc (.cells #[.int .i64 us'.kd, .bool us'.is, .int .i64 us'.n, .string ⟨us'.s.toArray⟩, .slice A3 nl3 cl3, .slice B3 nm3 cm3] 25)) (mapV t) none B1 0 0 nm1 cm1 from HOM.out.2.1.to (fun b o hb => b9.cell (p := ⟨b, o, none⟩) hb.2) (fun b hb => ⟨hb.1, Nat.lt_of_lt_of_le hb.2 b9.size⟩))
            clear b8 b9 hn8 hs hg2 q0 q1 q2 q3 q4 q5 o0 o1 o2 o3 o4 o5 p0 p1 p2 p3 p4 p5 z0 z1 z2 z3 z4 z5 y0 y1 y2 y3 y4 y5
            obtain ⟨o0, o1, o2, o3, o4, o5, p0, p1, p2, p3, p4, p5⟩ := cells6s HO9.out
            obtain ⟨q0, q1, q2, q3, q4, q5, _⟩ := cells6s HT9.out
            have HU9 := Lib.hid (VPar.to (P := fun b => (w6.alloc (.cells #[.int .i64 u6.kd, .bool u6.is, .int .i64 u6.n, .string ⟨u6.s.toArray⟩, .slice A2 nl2 cl2, .slice B2 nm2 cm2] 25)).heap.size ≤ b ∧ b < w8.heap.size) (w' := w8.alloc (.cells #[.int .i64 us'.kd, .bool us'.is, .int .i64 us'.n, .string ⟨us'.s.toArray⟩, .slice A3 nl3 cl3, .slice B3 nm3 cm3] 25)) (Q := fun b => (b ≠ G ∧ w.heap.size + 1 < b) ∧ b < (w8.alloc (.cells #[.int .i64 us'.kd, .bool us'.is, .int .i64 us'.n, .string ⟨us'.s.toArray⟩, .slice A3 nl3 cl3, .slice B3 nm3 cm3] 25)).heap.size) HN8.out.1 (fun b o hb => ((Below.refl _ _).alloc (Nat.le_refl _) _ : Below w8.heap.size w8 (w8.alloc (.cells #[.int .i64 us'.kd, .bool us'.is, .int .i64 us'.n, .string ⟨us'.s.toArray⟩, .slice A3 nl3 cl3, .slice B3 nm3 cm3] 25))).cell (p := ⟨b, o, none⟩) hb.2) (fun b hb => ⟨⟨by have := HGQ.out; have := HB7.out.size; have := hb.1; omega, by have := HWG.out; have := HGQ.out; have := HB7.out.size; have := hb.1; omega⟩, by have := hb.2; simp; omega⟩))
            have h8G : ¬ w8.heap.size = G := by have := HGQ.out; have := HN8.out.2; omega
            have hGL : G < w8.heap.size := by have := HGQ.out; have := HN8.out.2; omega
            have hZL : w.heap.size + 1 < w8.heap.size := by have := HWG.out; omega
            have hL8 : (w8.alloc (.cells #[.int .i64 us'.kd, .bool us'.is, .int .i64 us'.n, .string ⟨us'.s.toArray⟩, .slice A3 nl3 cl3, .slice B3 nm3 cm3] 25)).heap.size = w8.heap.size + 1 := by simp
            go_wp2_with fail
            generalize (w8.alloc (.cells #[.int .i64 us'.kd, .bool us'.is, .int .i64 us'.n, .string ⟨us'.s.toArray⟩, .slice A3 nl3 cl3, .slice B3 nm3 cm3] 25)) = w9 at *
            have hg9 : G < w9.heap.size := by omega
            have hz9 : w.heap.size + 1 < w9.heap.size := by omega
            clear hL8
            have HMAP := Lib.hid (fun W (hW : Below w9.heap.size w9 W) (hL : Blk W w9.heap.size 42 [.string ⟨#[115, 105, 103, 110, 101, 100]⟩, .int .i64 us'.kd, .bool us'.is, .int .i64 us'.n, .string ⟨us'.s.toArray⟩, .slice A3 nl3 cl3, .slice B3 nm3 cm3]) => show Calls Tryz.prog 30 #[.slice (some ⟨w9.heap.size, 0, none⟩) 1 1] W (ROk G (w.heap.size + 1) w9 (JT.one sgnK us' .nil)) from
              Calls.mono (map_calls (fun b => (b ≠ G ∧ w.heap.size + 1 < b) ∧ b < W.heap.size) (some ⟨w9.heap.size, 0, none⟩) 1 1 (JT.one sgnK us' .nil) W (fun b hb => hb.2) rfl (Nat.le_refl _) (.inr ⟨w9.heap.size, 0, rfl, ⟨⟨by omega, by omega⟩, hL.lt⟩, row7r hL (by decide) HU9.out.1 HU9.out.2.1 (HU9.out.2.2.1.stay (fun b o hb => hW.cell (p := ⟨b, o, none⟩) hb.2) (fun b hb => ⟨hb.1, Nat.lt_of_lt_of_le hb.2 hW.size⟩)) (HU9.out.2.2.2.1.stay (fun b o hb => hW.cell (p := ⟨b, o, none⟩) hb.2) (fun b hb => ⟨hb.1, Nat.lt_of_lt_of_le hb.2 hW.size⟩)) HU9.out.2.2.2.2⟩)) (fun e w' h => rok_of h hW hg9 hz9))
            have HPUT := Lib.hid (fun W B4 nm4 cm4 (hW : Below w9.heap.size w9 W) (hm : VPar (fun b => (b ≠ G ∧ w.heap.size + 1 < b) ∧ b < W.heap.size) W (mapV (JT.one sgnK us' .nil)) none B4 0 0 nm4 cm4) => show Calls Tryz.prog 33 #[.agg #[.int .i64 5, .bool false, .int .i64 0, .string ⟨#[]⟩, .slice none 0 0, .slice B1 nm1 cm1], .string ⟨#[116, 104, 105, 114, 100, 95, 112, 97, 114, 116, 121, 95, 105, 110, 118, 105, 116, 101]⟩, .agg #[.int .i64 5, .bool false, .int .i64 0, .string ⟨#[]⟩, .slice none 0 0, .slice B4 nm4 cm4]] W (ROk G (w.heap.size + 1) w9 (t.snoc tpiK (mapV (JT.one sgnK us' .nil)))) from
              Calls.mono (putM_calls (mapV t) (mapV (JT.one sgnK us' .nil)) none B1 none B4 0 0 nm1 cm1 0 0 nm4 cm4 tpiK (fun b => (b ≠ G ∧ w.heap.size + 1 < b) ∧ b < W.heap.size) W (fun b hb => hb.2) (HM9.out.to (fun b o hb => hW.cell (p := ⟨b, o, none⟩) hb.2) (fun b hb => ⟨hb.1, Nat.lt_of_lt_of_le hb.2 hW.size⟩)) hm rfl HOM.out.2.2.1.1 (OkT.pos (ks := []) (by have h := HOM.out.2.2.1; rw [HEX2.out] at h; exact h)).1 (OkT.pos (ks := []) (by have h := HOM.out.2.2.1; rw [HEX2.out] at h; exact h)).2 (by decide) (by show t.ext ≤ _; have := HOM.out.2.2.2; omega)) (fun e w' h => rok_of h hW hg9 hz9))
            go_region_with
              ((first
                | (go_at_call 30; (with_reducible refine (HMAP.out _ (by first | exact (Below.refl _ _).alloc (Nat.le_refl _) _ | exact ((Below.refl _ _).alloc (Nat.le_refl _) _).drew | exact ((Below.refl _ _).drew).alloc (Nat.le_refl _) _ | exact (((Below.refl _ _).drew).alloc (Nat.le_refl _) _).drew) (by first | exact Blk.new _ _ _ | exact (Blk.new _ _ _).drew)).mono ?_); rintro e w10 ⟨⟨B4, nm4, cm4, rfl, hm10⟩, b910⟩; have ho10 := HO9.out.later b910; have ht10 := HT9.out.later b910; obtain ⟨oo0, oo1, oo2, oo3, oo4, oo5, _⟩ := cells6s ho10; obtain ⟨qq0, qq1, qq2, qq3, qq4, qq5, _⟩ := cells6s ht10)
                | (go_at_call 33; (with_reducible refine (HPUT.out _ _ _ _ (by first | exact b910 | exact b910.drew) (by first | exact hm10 | exact hm10.to (fun _ _ _ => rfl) (fun _ h => h))).mono ?_); rintro e w11 ⟨⟨B5, nm5, cm5, rfl, hm11⟩, b911⟩; have ho11 := HO9.out.later b911; obtain ⟨rr0, rr1, rr2, rr3, rr4, rr5, ss0, ss1, ss2, ss3, ss4, ss5⟩ := cells6s ho11)
                | fail))
            all_goals
              have hz11 := HZ9.out.later b911
              have hwg := HWG.out
              obtain ⟨z0, z1, z2, z3, z4, z5, y0, y1, y2, y3, y4, y5⟩ := cells6s hz11
              have HW11 := Lib.hid (And.intro ho11 (And.intro hz11 (And.intro hm11 b911)))
              clear ho11 hz11 hm11 b911
              go_wp2_with fail
              rw [HE2.out]
              refine bodyPost_ret (res_cell6 rfl _ ⟨w.heap.size + 1, 0, none⟩ _ _ rfl (Blk.load (blk6o (o := 0) (far6o (o := 0) (g := G) (x0 := .int .i64 5) (x1 := .bool false) (x2 := .int .i64 0) (x3 := .string ⟨#[]⟩) (x4 := .slice none 0 0) (x5 := .slice B5 nm5 cm5) HW11.out.2.1 (by omega))) _ Tryz.underlying25 rfl size_v6)) rfl ⟨⟨none, B5, 0, 0, nm5, cm5, rfl, HW11.out.2.2.1.to (fun b o hb => (cell6o (Nat.ne_of_gt hb.1.2)).trans (cell6o (g := G) (o := 0) hb.1.1)) (fun b hb => ?_)⟩, below6o (below6o (g := G) (x0 := .int .i64 5) (x1 := .bool false) (x2 := .int .i64 0) (x3 := .string ⟨#[]⟩) (x4 := .slice none 0 0) (x5 := .slice B5 nm5 cm5) (HB9.out.then_ HW11.out.2.2.2) (by omega)) (by omega)⟩
              refine ⟨by have := hb.1.2; omega, ?_⟩
              show b < (set6o (set6o _ _ 0 _ _ _ _ _ _) _ 0 _ _ _ _ _ _).heap.size
              rw [size6o, size6o]; exact hb.2
        · have hm1 : (kind == [109, 46, 114, 111, 111, 109, 46, 109, 101, 109, 98, 101, 114]) = false := by rw [beq_eq_false_iff_ne]; exact hm
          have hm2 : (kind != [109, 46, 114, 111, 111, 109, 46, 109, 101, 109, 98, 101, 114]) = true := by rw [bne_iff_ne]; exact hm
          have HE2 := Lib.hid (show contJ kind v = mapV t by rw [HE.out]; unfold finJ; rw [if_neg hm])
          clear hm
          go_wp2_with fail
          rw [HE2.out]
          exact bodyPost_ret (res_cell6 rfl _ ⟨w.heap.size + 1, 0, none⟩ _ _ rfl (Blk.load (blk6o (o := 0) hXr.out.2) _ Tryz.underlying25 rfl size_v6)) rfl ⟨⟨none, B1, 0, 0, nm1, cm1, rfl, HOM.out.2.1.to (fun b o hb => cell6o (Nat.ne_of_gt hb.1.2)) (fun b hb => ⟨by have := hb.1.2; omega, by show b < (set6o _ _ 0 _ _ _ _ _ _).heap.size; rw [size6o]; exact hb.2⟩)⟩, below6o hBr.out (by omega)⟩
theorem content_calls (kind : List UInt8) (v : Jv) (A0 B0 : Option Addr) (nl0 cl0 nm0 cm0 : Nat) (w : World) (hv : VOk w v A0 B0 nl0 cl0 nm0 cm0) (hr : risV v = true) (hbk : v.bulk ≤ 50000) :
    Calls Tryz.prog 15 #[.string ⟨kind.toArray⟩, .agg #[.int .i64 v.kd, .bool v.is, .int .i64 v.n, .string ⟨v.s.toArray⟩, .slice A0 nl0 cl0, .slice B0 nm0 cm0]] w (CtPost (contJ kind v) w) :=
  (contentN_calls kind v A0 B0 nl0 cl0 nm0 cm0 w hv hr hbk).mono fun e w' ⟨⟨A, B, nl, cl, nm, cm, he, hn⟩, hb⟩ => ⟨⟨A, B, nl, cl, nm, cm, he, hn.ok⟩, hb⟩
end Go.Proofs.YtkbcbikilgcckaaGreatDoor
namespace Go.Proofs.YtkbcbikilgcckaaGreatDoor
open Go.ChangeShapes Go.WideShapes Go.ChangeAt Go.RowKit Go.IntWalk
set_option linter.unusedVariables false

section
variable {w : World} {g : Nat} {T : TypeId} {a0 a1 a2 a3 a4 a5 x0 x1 x2 x3 x4 x5 : Value}
/-- Six cells stored. -/
def set6 (w : World) (g : Nat) (x0 x1 x2 x3 x4 x5 : Value) : World := (((((w.setCell ⟨g, 0, none⟩ x0).setCell ⟨g, 1, none⟩ x1).setCell ⟨g, 2, none⟩ x2).setCell ⟨g, 3, none⟩ x3).setCell ⟨g, 4, none⟩ x4).setCell ⟨g, 5, none⟩ x5
theorem blk6 (h : Blk w g T [a0, a1, a2, a3, a4, a5]) : Blk (set6 w g x0 x1 x2 x3 x4 x5) g T [x0, x1, x2, x3, x4, x5] :=
  (((((h.set_ 0 x0).set_ 1 x1).set_ 2 x2).set_ 3 x3).set_ 4 x4).set_ 5 x5
theorem below6 {B : Nat} {a : World} (h : Below B a w) (hg : B ≤ g) : Below B a (set6 w g x0 x1 x2 x3 x4 x5) :=
  (((((h.setCell hg _).setCell hg _).setCell hg _).setCell hg _).setCell hg _).setCell hg _
theorem cells6 (h : Blk w g T [a0, a1, a2, a3, a4, a5]) : w.cell? ⟨g, 0, none⟩ = some a0 ∧ w.cell? ⟨g, 1, none⟩ = some a1 ∧ w.cell? ⟨g, 2, none⟩ = some a2 ∧ w.cell? ⟨g, 3, none⟩ = some a3 ∧ w.cell? ⟨g, 4, none⟩ = some a4 ∧ w.cell? ⟨g, 5, none⟩ = some a5 ∧
    w.frozen? ⟨g, 0, none⟩ = false ∧ w.frozen? ⟨g, 1, none⟩ = false ∧ w.frozen? ⟨g, 2, none⟩ = false ∧ w.frozen? ⟨g, 3, none⟩ = false ∧ w.frozen? ⟨g, 4, none⟩ = false ∧ w.frozen? ⟨g, 5, none⟩ = false :=
  ⟨h.cell rfl, h.cell rfl, h.cell rfl, h.cell rfl, h.cell rfl, h.cell rfl, h.frozen _, h.frozen _, h.frozen _, h.frozen _, h.frozen _, h.frozen _⟩
end
end Go.Proofs.YtkbcbikilgcckaaGreatDoor
namespace Go.Proofs.YtkbcbikilgcckaaGreatDoor
open Go.ChangeShapes Go.WideShapes Go.ChangeAt Go.RowKit Go.IntWalk
set_option linter.unusedVariables false

theorem findV_step (t : JT) (i : Nat) (key : List UInt8) (h : i < t.ext) : (t.fall i).findV key = if (t.fall i).key = key then some (t.fall i).val else (t.fall (i + 1)).findV key := by
  conv => lhs; rw [t.fall_of_lt i h]
  rfl
theorem findV_end (t : JT) (key : List UInt8) : (t.fall t.ext).findV key = none := by rw [JT.fall_all t _ (Nat.le_refl _)]; rfl
/-- A value whose parts lie below base. -/
def VOkB (base : Nat) (w : World) (v : Jv) (A B : Option Addr) (nl cl nm cm : Nat) : Prop := Room nl cl v.l.ext ∧ Room nm cm v.m.ext ∧ JSl (· < base) w false A v.l ∧ JSl (· < base) w true B v.m ∧ Fit v.kd v.n v.s
theorem VOkB.blw {base : Nat} {w w' : World} {v : Jv} {A B : Option Addr} {nl cl nm cm : Nat} (h : VOkB base w v A B nl cl nm cm) (b : Below base w w') : VOkB base w' v A B nl cl nm cm := ⟨h.1, h.2.1, h.2.2.1.blw b, h.2.2.2.1.blw b, h.2.2.2.2⟩
theorem VOkB.ok {base : Nat} {w : World} {v : Jv} {A B : Option Addr} {nl cl nm cm : Nat} (h : VOkB base w v A B nl cl nm cm) (hb : base ≤ w.heap.size) : VOk w v A B nl cl nm cm :=
  ⟨h.1, h.2.1, h.2.2.1.stay (fun _ _ _ => rfl) (fun x hx => Nat.lt_of_lt_of_le hx hb), h.2.2.2.1.stay (fun _ _ _ => rfl) (fun x hx => Nat.lt_of_lt_of_le hx hb), h.2.2.2.2⟩
theorem nullB_ok (base : Nat) (w : World) : VOkB base w nullV none none 0 0 0 0 := ⟨⟨rfl, Nat.le_refl _, by decide⟩, ⟨rfl, Nat.le_refl _, by decide⟩, .inl rfl, .inl rfl, by unfold Fit nullV; decide⟩
/-- What Find answers. -/
def FRes (base : Nat) (o : Option Jv) (w : World) (e : Ending) (w' : World) : Prop :=
  (∃ (A B : Option Addr) (nl cl nm cm : Nat), e = .returned (.tuple #[.agg #[.int .i64 (o.getD nullV).kd, .bool (o.getD nullV).is, .int .i64 (o.getD nullV).n, .string ⟨(o.getD nullV).s.toArray⟩, .slice A nl cl, .slice B nm cm], .bool o.isSome]) ∧ VOkB base w' (o.getD nullV) A B nl cl nm cm) ∧ Below w.heap.size w w'
theorem res_cell2 {fn : Func} {p q : Tmp} {ty : TypeId} (h : fn.results = #[.cell p ty, .tmp q]) (tmps : Array Value) (a : Addr) (v u : Value) (W : World) (hp : tmps.getD p undef = .pointer (some a)) (hq : tmps.getD q undef = u) (hld : (loadVar ty a).run Tryz.prog W = .ok v W) : (results fn tmps).run Tryz.prog W = .ok (.tuple #[v, u]) W := by
  simp only [Array.getD_eq_getD_getElem?] at hp hq
  subst hq
  simp [results, h, hp, asAddr, hld]
set_option maxHeartbeats 4000000 in
theorem reffind_calls (base : Nat) (t : JT) (A : Option Addr) (n c : Nat) (key : List UInt8) (w : World) (hn : Room n c t.ext) (hBs : base ≤ w.heap.size) (hs : JSl (· < base) w true A t) :
    Calls Tryz.prog 37 #[.slice A n c, .string ⟨key.toArray⟩] w (FRes base (t.findV key) w) := by
  obtain ⟨hn, hnc, hc47⟩ := hn
  obtain ⟨R, hR⟩ : ∃ R, t.findV key = R := ⟨_, rfl⟩
  have HS := Lib.hid hs
  have HNX := Lib.hid hn
  have HR0 := Lib.hid (show R = (t.fall 0).findV key by rw [JT.fall_zero, hR])
  rw [hR]
  clear hs hn hR
  go_enter Tryz.func37, Tryz.ntmps37
  go_wp2_with fail
  have hz := Blk.new w [.int .i64 0, .bool false, .int .i64 0, .string ⟨#[]⟩, .slice none 0 0, .slice none 0 0] 25
  have HB0 := Lib.hid ((Below.refl w.heap.size w).alloc (Nat.le_refl _) (.cells #[.int .i64 0, .bool false, .int .i64 0, .string ⟨#[]⟩, .slice none 0 0, .slice none 0 0] 25))
  go_loopw [10] (fun i wr => ∃ k : Nat, k ≤ n ∧ i = .int .i64 (k : Int) ∧ Hid (Below w.heap.size w wr) ∧ Hid (Blk wr w.heap.size 25 [.int .i64 0, .bool false, .int .i64 0, .string ⟨#[]⟩, .slice none 0 0, .slice none 0 0]) ∧ Hid (R = (t.fall k).findV key)) (fun i _ => n - (intOf i).toNat)
  case atStart => exact ⟨0, by omega, rfl, HB0, Lib.hid hz, HR0⟩
  case round =>
    obtain ⟨k, hk, rfl, hB, hZ, hF⟩ := hrel
    clear hz
    by_cases hlt : k < n
    · have hkx : k < t.ext := by rw [← HNX.out]; exact hlt
      obtain ⟨eb, eo, eA, enl, ecl, eB, enm, ecm, rfl, eP, ebl, eK, eKl, f0, f1, f2, f3, f4, f5, r1, r2, s1, s2, hf⟩ := (HS.out.blw (hB.out.mono hBs)).mb (i := k) _ hkx
      obtain ⟨eu, hev⟩ : ∃ eu, (t.fall k).val = eu := ⟨_, rfl⟩
      obtain ⟨ek, hek⟩ : ∃ ek, (t.fall k).key = ek := ⟨_, rfl⟩
      have HF2 := Lib.hid (show R = if ek = key then some eu else (t.fall (k + 1)).findV key by rw [hF.out, findV_step t k key hkx, hek, hev])
      rw [hev] at f0 f1 f2 f3 r1 r2 s1 s2 hf
      rw [hek] at eK
      have HV := Lib.hid (And.intro r1 (And.intro r2 (And.intro s1 (And.intro s2 hf))))
      have hz2 := hZ.out.alloc (.cells #[.string ⟨ek.toArray⟩, .int .i64 eu.kd, .bool eu.is, .int .i64 eu.n, .string ⟨eu.s.toArray⟩, .slice eA enl ecl, .slice eB enm ecm] 42)
      have HZ2 := Lib.hid hz2
      have HB2 := Lib.hid (hB.out.alloc hB.out.size (.cells #[.string ⟨ek.toArray⟩, .int .i64 eu.kd, .bool eu.is, .int .i64 eu.n, .string ⟨eu.s.toArray⟩, .slice eA enl ecl, .slice eB enm ecm] 42))
      clear eP eKl r1 r2 s1 s2 hf hev hek hkx
      by_cases hkk : ek = key
      · have ht : (ek == key) = true := by simpa using hkk
        have HF3 := Lib.hid (show R = some eu by rw [HF2.out, if_pos hkk])
        obtain ⟨c0, c1, c2, c3, c4, c5, g0, g1, g2, g3, g4, g5⟩ := cells6 hz2
        clear hkk hz2
        go_wp2_with fail
        have HB6 := Lib.hid (show Below w.heap.size wr (wr.alloc (.cells #[.string ⟨ek.toArray⟩, .int .i64 eu.kd, .bool eu.is, .int .i64 eu.n, .string ⟨eu.s.toArray⟩, .slice eA enl ecl, .slice eB enm ecm] 42)) from (Below.refl _ _).alloc hB.out.size _)
        rw [HF3.out]
        exact bodyPost_ret (res_cell2 rfl _ ⟨w.heap.size, 0, none⟩ _ (.bool true) _ rfl rfl (Blk.load (blk6 HZ2.out) _ Tryz.underlying25 rfl size_val)) rfl ⟨⟨eA, eB, enl, ecl, enm, ecm, rfl, VOkB.blw ⟨HV.out.1, HV.out.2.1, HV.out.2.2.1, HV.out.2.2.2.1, HV.out.2.2.2.2⟩ ((below6 HB6.out (Nat.le_refl _)).mono hBs)⟩, below6 HB2.out (Nat.le_refl _)⟩
      · have ht : (ek == key) = false := by simpa using hkk
        have HF3 := Lib.hid (show R = (t.fall (k + 1)).findV key by rw [HF2.out, if_neg hkk])
        clear hkk hz2
        go_wp2_with fail
        go_roundw
        case rel => exact ⟨k + 1, by omega, by go_num, HB2, HZ2, HF3⟩
        case measure => simp [intOf]; omega
    · obtain rfl : k = n := by omega
      have HF3 := Lib.hid (show R = none by rw [hF.out, HNX.out, findV_end])
      obtain ⟨c0, c1, c2, c3, c4, c5, g0, g1, g2, g3, g4, g5⟩ := cells6 hZ.out
      go_wp2_with fail
      rw [HF3.out]
      exact bodyPost_ret (res_cell2 rfl _ ⟨w.heap.size, 0, none⟩ _ (.bool false) _ rfl rfl (Blk.load (blk6 hZ.out) _ Tryz.underlying25 rfl size_val)) rfl ⟨⟨none, none, 0, 0, 0, 0, rfl, nullB_ok _ _⟩, below6 hB.out (Nat.le_refl _)⟩
end Go.Proofs.YtkbcbikilgcckaaGreatDoor
