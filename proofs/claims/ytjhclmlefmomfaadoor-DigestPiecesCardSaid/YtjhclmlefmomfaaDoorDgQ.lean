/- Layer 2: the law that what is handed in stays, isn't kept; two Hashes; a nil one. -/
import Derived.Test.YtjhclmlefmomfaaDoorDgO
namespace Go.Proofs.YtjhclmlefmomfaaDoor
open Go.ChangeShapes Go.WideShapes Go.ChangeAt Go.RowKit Go.IntWalk
set_option linter.unusedVariables false

theorem HSt.keptR {w w1 : World} {x tot : Nat} {row : Option Nat} {bs : List UInt8} (h : HSt w x bs tot) (hg : w.grownBy w1 row) (hne : some x ≠ row) : HSt w1 x bs tot := by
  obtain ⟨wt, h1, h2, hB⟩ := h
  exact ⟨wt, h1, h2, (hg.block x hB.lt hne).trans hB⟩
theorem incB (c : UInt8) : IntKind.u8.wrap ((c.toNat : Int) + 1) = ((c + 1).toNat : Int) := by
  have := c.toNat_lt
  rw [UInt8.toNat_add]
  simp [IntKind.wrap, IntKind.bits, IntKind.signed]
theorem OwnBs.form2 {base : Nat} {w : World} {v : Value} {bs : List UInt8} (h : OwnBs base w v bs) :
    ∃ A n cap, v = .slice A n cap ∧ RB w A bs ∧ Hid (n = bs.length) ∧ n ≤ cap := by
  obtain ⟨A, n, cap, rfl, h1, h2⟩ := h.form
  refine ⟨A, n, cap, rfl, h1, h2, ?_⟩
  rcases h.2 with ⟨e, h0⟩ | ⟨g, cap2, cur, e, hb, hh, hn, hm, hs, ht⟩
  · injection e with _ e1 e2; omega
  · injection e with _ e1 e2; omega
/-- What stands of the two Hashes, and of what is the call's own. -/
def KeS (w : World) (g1 g2 : Nat) (xs bs : List UInt8) (t1 t2 : Nat) (v : Value) (ms : List UInt8) (wr : World) : Prop :=
  OwnBs w.heap.size wr v ms ∧ HSt wr g1 xs t1 ∧ HSt wr g2 bs t2 ∧ Below w.heap.size w wr
theorem KeS.put {w wr w1 : World} {g g1 g2 t1 t2 : Nat} {xs bs ms : List UInt8} {v : Value} (h : KeS w g1 g2 xs bs t1 t2 v ms wr) (hg : wr.grownBy w1 (some g)) (hv : v.ownBlock ≠ some g) (hgw : w.heap.size ≤ g) :
    OwnBs w.heap.size w1 v ms ∧ (g1 ≠ g → HSt w1 g1 xs t1) ∧ (g2 ≠ g → HSt w1 g2 bs t2) ∧ Below w.heap.size w w1 :=
  ⟨h.1.kept hg (.inr hv), fun hne => h.2.1.kept hg hne, fun hne => h.2.2.1.kept hg hne, h.2.2.2.gb hg hgw h.2.2.2.size⟩
theorem KeS.later {w wr w1 : World} {g1 g2 t1 t2 : Nat} {xs bs ms : List UInt8} {v : Value} (h : KeS w g1 g2 xs bs t1 t2 v ms wr) (hb : Below wr.heap.size wr w1) : KeS w g1 g2 xs bs t1 t2 v ms w1 :=
  ⟨h.1.below hb (Nat.le_refl _), h.2.1.below hb, h.2.2.1.below hb, h.2.2.2.then_ hb⟩
theorem KeS.rb {w wr : World} {g1 g2 t1 t2 n c : Nat} {xs bs ms : List UInt8} {A : Option Addr} (h : KeS w g1 g2 xs bs t1 t2 (.slice A n c) ms wr) : RB wr A ms ∧ Hid (n = ms.length) := by
  obtain ⟨A2, n2, c2, e, h1, h2⟩ := h.1.form
  injection e with e1 e2 e3
  subst e1; subst e2
  exact ⟨h1, h2⟩
set_option maxRecDepth 100000 in
set_option maxHeartbeats 4000000 in
theorem digestKeeps_walk (A : Option Addr) (n c : Nat) (xs : List UInt8) {w : World} (hr : RB w A xs) (hn : Hid (n = xs.length)) (hc : n ≤ c)
    (B : Option Addr) (m d : Nat) (bs : List UInt8) (hs : RB w B bs) (hm : Hid (m = bs.length)) (hd : m ≤ d) (hT : Tab w) :
    Calls Tryd.prog 6 #[.slice A n c, .slice B m d] w fun e w' => e = .returned (.bool true) ∧ Below w.heap.size w w' := by
  have H0 := Lib.hid (And.intro hT (And.intro hr hs))
  clear hT hr hs
  go_enter Tryd.func6, Tryd.ntmps6
  go_wp2_with fail
  refine (alive_calls _ H0.out.1).mono ?_
  rintro e w1 ⟨rfl, b1⟩
  by_cases hbigA : 4096 < n
  · have B1 := Lib.hid b1
    clear b1
    go_wp2_with fail
    go_ret
    exact ⟨rfl, B1.out⟩
  by_cases hbigB : 4096 < m
  · have B1 := Lib.hid b1
    clear b1
    go_wp2_with fail
    go_ret
    exact ⟨rfl, B1.out⟩
  have hal : xs.length ≤ 4096 := by rw [← hn.out]; omega
  have hbl : bs.length ≤ 4096 := by rw [← hm.out]; omega
  have hown0 : OwnBs w.heap.size (w1.alloc (.cells #[] 5)) (.slice (some ⟨w1.heap.size, 0, none⟩) 0 0) [] := OwnBs.made _ _ #[] 0 b1.size (by decide) rfl
  have b1' : Below w.heap.size w (w1.alloc (.cells #[] 5)) := b1.alloc b1.size _
  go_upto_region 6 with (at_builtin; refine wpList_append_rb rfl (.tmp 20) (.tmp 21) rfl w.heap.size _ _ rfl hown0 A n c xs rfl (H0.out.2.1.below b1') hn (by simp; omega) b1'.size ?_; intro v2 w2 hown2 hgrow2)
  have b2 : Below w.heap.size w w2 := b1'.grown hgrow2 b1'.size (fun k hk => (hown0.lt k hk).1)
  clear hown0 hgrow2 b1' b1
  rw [List.nil_append] at hown2
  obtain ⟨A2, n2, c2, rfl, hrb2, hn2, hc2⟩ := hown2.form2
  have hlt2 : ∀ x o, A2 = some ⟨x, o, none⟩ → w.heap.size ≤ x ∧ x < w2.heap.size := by
    intro x o h
    have := hown2.lt x (by rw [h]; rfl)
    exact this
  have hw2s := b2.size
  have H2 := Lib.hid (And.intro hown2 (And.intro hrb2 b2))
  have HL2 := Lib.hid hlt2
  clear hown2 hrb2 b2 hlt2
  go_wp2_with fail
  refine (new_calls _).mono ?_
  rintro e w3 ⟨rfl, hh3, hb3⟩
  obtain ⟨g1, hg1⟩ : ∃ g, w2.heap.size = g := ⟨_, rfl⟩
  rw [hg1] at hh3 ⊢
  have H3 := Lib.hid (And.intro hh3 hb3)
  have hs3 : g1 < w3.heap.size := hh3.lt
  clear hh3 hb3
  go_wp2_with fail
  refine (new_calls _).mono ?_
  rintro e w4 ⟨rfl, hh4, hb4⟩
  obtain ⟨g2, hg2⟩ : ∃ g, w3.heap.size = g := ⟨_, rfl⟩
  rw [hg2] at hh4 hs3 ⊢
  have hk4 : KeS w g1 g2 [] [] 0 0 (.slice A2 n2 c2) xs w4 := ⟨(H2.out.1.below H3.out.2 (Nat.le_refl _)).below hb4 (Nat.le_refl _), H3.out.1.below hb4, hh4, (H2.out.2.2.then_ H3.out.2).then_ hb4⟩
  have hgw : w.heap.size ≤ g1 := by omega
  have hw0 : 0 < w.heap.size := H0.out.1.2
  have hv1 : (Value.slice A2 n2 c2).ownBlock ≠ some g1 := fun h => by
    have := H2.out.1.lt g1 h
    omega
  have hv2 : (Value.slice A2 n2 c2).ownBlock ≠ some g2 := fun h => by
    have := H2.out.1.lt g2 h
    omega
  have hap1 : 0 < xs.length → ∀ x o, A2 = some ⟨x, o, none⟩ → x ≠ g1 := fun _ x o h e => by
    have := HL2.out x o h
    omega
  have hapB : 0 < bs.length → ∀ x o, B = some ⟨x, o, none⟩ → x < w.heap.size := fun h0 x o h => by
    obtain ⟨x2, o2, h2, hx2⟩ := H0.out.2.2.some h0
    rw [h] at h2; injection h2 with h2; injection h2 with h2
    omega
  have HV := Lib.hid (And.intro hv1 (And.intro hv2 (And.intro hap1 hapB)))
  have HK4 := Lib.hid hk4
  clear hk4 hh4 hb4 hg2 hg1 H3 H2 HL2 hv1 hv2 hap1 hapB
  go_wp2_with fail
  refine (write_calls g1 [] xs (by simp; omega) A2 n2 c2 hn2 hc2 w4 (H0.out.1.later HK4.out.2.2.2) (by omega) HK4.out.rb.1 HV.out.2.2.1 HK4.out.2.1).mono ?_
  rintro e w5 ⟨rfl, hh5, hg5⟩
  have hk5 : KeS w g1 g2 xs [] xs.length 0 (.slice A2 n2 c2) xs w5 := by
    obtain ⟨h1, h2, h3, h4⟩ := HK4.out.put hg5 HV.out.1 hgw
    rw [List.nil_append, show ([] : List UInt8).length + xs.length = xs.length by simp] at hh5
    exact ⟨h1, hh5, h3 (by omega), h4⟩
  have HK5 := Lib.hid hk5
  clear hk5 hh5 hg5 HK4
  go_wp2_with fail
  refine (write_calls g2 [] bs (by simp; omega) B m d hm hd w5 (H0.out.1.later HK5.out.2.2.2) (by omega) (H0.out.2.2.below HK5.out.2.2.2) (fun h x o e => by have := HV.out.2.2.2 h x o e; omega) HK5.out.2.2.1).mono ?_
  rintro e w6 ⟨rfl, hh6, hg6⟩
  have hk6 : KeS w g1 g2 xs bs xs.length bs.length (.slice A2 n2 c2) xs w6 := by
    obtain ⟨h1, h2, h3, h4⟩ := HK5.out.put hg6 HV.out.2.1 (by omega)
    rw [List.nil_append, show ([] : List UInt8).length + bs.length = bs.length by simp] at hh6
    exact ⟨h1, h2 (by omega), hh6, h4⟩
  have HK6 := Lib.hid hk6
  clear hk6 hh6 hg6 HK5
  have hc1 := run_str_rb w6 A2 n2 c2 _ HK6.out.rb.1 hn2
  have hc2' := run_str_rb w6 A n c _ (H0.out.2.1.below HK6.out.2.2.2) hn
  go_wp2_with fail
  clear hc1 hc2'
  go_loopw [38] (fun v wr => ∃ k l, k ≤ n2 ∧ v = .int .i64 (k : Nat) ∧ n2 = l.length ∧ KeS w g1 g2 xs bs xs.length bs.length (.slice A2 n2 c2) l wr) (fun v _ => n2 - (intOf v).toNat)
  case atStart => exact ⟨0, xs, Nat.zero_le _, rfl, hn2.out, HK6.out⟩
  case round =>
    clear HK6
    obtain ⟨k, l, hk, rfl, hnl, hks⟩ := hrel
    have HK := Lib.hid hks
    clear hks
    have hn2b : n2 ≤ 4096 := by rw [hn2.out]; exact hal
    by_cases hlt : k < n2
    · obtain ⟨g, rfl, hbg, hcell, hfr, hset⟩ := HK.out.1.at_ (k := k) (by rw [← hnl]; exact hlt)
      obtain ⟨x, hx⟩ : ∃ x, l.getD k 0 = x := ⟨_, rfl⟩
      rw [hx] at hcell
      have hset := hset (x + 1)
      have hin := incB x
      have hgb := gb_setCell wr g k (.int .u8 ((x + 1).toNat : Int))
      have hg1' : g1 ≠ g := fun h => by subst h; exact HV.out.1 rfl
      have hg2' : g2 ≠ g := fun h => by subst h; exact HV.out.2.1 rfl
      have HR : Hid (KeS w g1 g2 xs bs xs.length bs.length (.slice (some ⟨g, 0, none⟩) n2 c2) (l.set k (x + 1)) (wr.setCell ⟨g, k, none⟩ (.int .u8 ((x + 1).toNat : Int)))) :=
        Lib.hid ⟨hset, HK.out.2.1.kept hgb hg1', HK.out.2.2.1.kept hgb hg2', HK.out.2.2.2.gb hgb hbg HK.out.2.2.2.size⟩
      obtain ⟨y, hy⟩ : ∃ y : Int, ((x + 1).toNat : Int) = y := ⟨_, rfl⟩
      obtain ⟨z, hz⟩ : ∃ z : Int, (x.toNat : Int) = z := ⟨_, rfl⟩
      rw [hy, hz] at hin
      rw [hz] at hcell
      rw [hy] at HR
      clear hset hgb hx hy hz hg1' hg2'
      go_wp2
      go_roundw
      case rel => exact ⟨k + 1, l.set k (x + 1), by omega, by go_num, by rw [List.length_set]; exact hnl, HR.out⟩
      case measure => simp [intOf]; omega
    · go_wp2_with fail
      refine (write_calls g1 xs bs (by omega) B m d hm hd wr (H0.out.1.later HK.out.2.2.2) (by omega) (H0.out.2.2.below HK.out.2.2.2) (fun h x o e => by have := HV.out.2.2.2 h x o e; omega) HK.out.2.1).mono ?_
      rintro e w8 ⟨rfl, hh8, hg8⟩
      have hk8 : KeS w g1 g2 (xs ++ bs) bs (xs ++ bs).length bs.length (.slice A2 n2 c2) l w8 := by
        obtain ⟨h1, h2, h3, h4⟩ := HK.out.put hg8 HV.out.1 hgw
        exact ⟨h1, by rw [List.length_append]; exact hh8, h3 (by omega), h4⟩
      have HK8 := Lib.hid hk8
      clear hk8 hh8 hg8 HK hnl hk hlt
      go_wp2_with fail
      refine (write_nil B m d w8).mono ?_
      rintro e w9 ⟨rfl, hb9⟩
      have HK9 := Lib.hid (HK8.out.later hb9)
      clear hb9 HK8
      go_wp2_with fail
      refine (sum_calls g1 (xs ++ bs) (by rw [List.length_append]; omega) w9 (H0.out.1.later HK9.out.2.2.2) (by omega) HK9.out.2.1).mono ?_
      rintro e w10 ⟨rfl, hb10⟩
      have HK10 := Lib.hid (HK9.out.later hb10)
      obtain ⟨D1, hD1⟩ : ∃ d, (u8b (digest (xs ++ bs))).toArray = d := ⟨_, rfl⟩
      obtain ⟨D2, hD2⟩ : ∃ d, (u8b (digest bs)).toArray = d := ⟨_, rfl⟩
      obtain ⟨D3, hD3⟩ : ∃ d, (u8b (List.replicate 32 0)).toArray = d := ⟨_, rfl⟩
      have hq1 : ∀ W, (binOp .eql 24 (.agg D1) (.agg D1)).run Tryd.prog W = .ok (.bool true) W := fun W => by rw [← hD1]; exact sameD _ (digest_len _) W
      have hq2 : ∀ W, (binOp .eql 24 (.agg D2) (.agg D2)).run Tryd.prog W = .ok (.bool true) W := fun W => by rw [← hD2]; exact sameD _ (digest_len _) W
      have hq3 : ∀ W, (binOp .eql 24 (.agg D3) (.agg #[.int .u8 0, .int .u8 0, .int .u8 0, .int .u8 0, .int .u8 0, .int .u8 0, .int .u8 0, .int .u8 0, .int .u8 0, .int .u8 0, .int .u8 0, .int .u8 0, .int .u8 0, .int .u8 0, .int .u8 0, .int .u8 0, .int .u8 0, .int .u8 0, .int .u8 0, .int .u8 0, .int .u8 0, .int .u8 0, .int .u8 0, .int .u8 0, .int .u8 0, .int .u8 0, .int .u8 0, .int .u8 0, .int .u8 0, .int .u8 0, .int .u8 0, .int .u8 0])).run Tryd.prog W = .ok (.bool true) W := fun W => by rw [← hD3]; exact sameD (List.replicate 32 0) (by simp) W
      have hbd : ∀ W, (Instr.build 24 #[]).run Tryd.prog W = .ok (.agg D3) W := fun W => by rw [← hD3]; exact buildD W
      have hgd := guardD
      rw [hD1]
      have HD := Lib.hid (And.intro hD1 (And.intro hD2 hD3))
      clear hb10 HK9 hD1 hD2 hD3
      have hown0 : OwnBs w10.heap.size (w10.alloc (.cells #[] 5)) (.slice (some ⟨w10.heap.size, 0, none⟩) 0 0) [] := OwnBs.made _ _ #[] 0 (Nat.le_refl _) (by decide) rfl
      have bA : Below w10.heap.size w10 (w10.alloc (.cells #[] 5)) := (Below.refl _ _).alloc (Nat.le_refl _) _
      have bwA := HK10.out.2.2.2.then_ bA
      go_wp2_with (first
        | (at_builtin; refine wpList_append_rb rfl (.tmp 56) (.tmp 57) rfl w10.heap.size _ _ rfl hown0 A n c xs rfl (H0.out.2.1.below bwA) hn (by simp; omega) bA.size ?_; intro v11 w11 hown11 hgrow11; have b11 : Below w10.heap.size w10 w11 := bA.grown hgrow11 bA.size (fun k hk => (hown0.lt k hk).1); rw [List.nil_append] at hown11)
        | (at_builtin; refine wpList_append_rb rfl (.tmp 58) (.tmp 59) rfl w10.heap.size _ _ rfl hown11 B m d bs rfl (H0.out.2.2.below (HK10.out.2.2.2.then_ b11)) hm (by omega) b11.size ?_; intro v12 w12 hown12 hgrow12; have b12 : Below w10.heap.size w10 w12 := b11.grown hgrow12 b11.size (fun k hk => (hown11.lt k hk).1)))
      have HKB := Lib.hid (HK10.out.later b12)
      obtain ⟨A12, n12, c12, rfl, hrb12, hn12, hc12⟩ := hown12.form2
      clear hown0 bA bwA hown11 hgrow11 b11 hown12 hgrow12 b12 HK10
      refine (of_calls (xs ++ bs) (by rw [List.length_append]; omega) A12 n12 c12 hn12 hc12 _ (H0.out.1.later HKB.out.2.2.2) hrb12).mono ?_
      rintro e w13 ⟨rfl, hb13⟩
      rw [HD.out.1]
      have HK13 := Lib.hid (HKB.out.later hb13)
      clear hb13 HKB hrb12 hn12 hc12
      go_wp2_with fail
      refine (sum_calls g2 bs (by omega) w13 (H0.out.1.later HK13.out.2.2.2) (by omega) HK13.out.2.2.1).mono ?_
      rintro e w14 ⟨rfl, hb14⟩
      rw [HD.out.2.1]
      have HK14 := Lib.hid (HK13.out.later hb14)
      clear hb14 HK13
      go_wp2_with fail
      refine (of_calls bs (by omega) B m d hm hd _ (H0.out.1.later HK14.out.2.2.2) (H0.out.2.2.below HK14.out.2.2.2)).mono ?_
      rintro e w15 ⟨rfl, hb15⟩
      rw [HD.out.2.1]
      have HK15 := Lib.hid (HK14.out.later hb15)
      clear hb15 HK14
      go_wp2_with fail
      refine (sum_nil w15).mono ?_
      rintro e w16 ⟨rfl, hb16⟩
      rw [HD.out.2.2]
      have HK16 := Lib.hid (HK15.out.2.2.2.then_ hb16)
      clear hb16 HK15
      go_wp2_with fail
      go_ret
      exact ⟨rfl, HK16.out⟩
end Go.Proofs.YtjhclmlefmomfaaDoor
