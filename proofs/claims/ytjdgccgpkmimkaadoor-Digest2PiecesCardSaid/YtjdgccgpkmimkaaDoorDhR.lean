/- Layer 3: the law that bytes given piece by piece have the digest of them at once. -/
import Derived.Test.YtjdgccgpkmimkaaDoorDhQ
import Derived.Test.YtjdgccgpkmimkaaDoorRows8
namespace Go.Proofs.YtjdgccgpkmimkaaDoor
open Go.ChangeShapes Go.WideShapes Go.ChangeAt Go.RowKit Go.IntWalk
set_option linter.unusedVariables false

theorem digest2Pieces_open0 {H : Type} {enc : TypeId × Value → H} {w : World} {base : Nat} {held : Bool} {A : Option Addr} {n c : Nat} {d : DataW H} {p : List MemPlace}
    (h : DataW.Trod enc Tryd.prog w base (fun _ => true) held 29 (.slice A n c) d p) (hwt : ∀ q ∈ d.weights Tryd.prog 29, q ≤ reachBytes) : ∃ bss, Own29 w A n c bss := rows_open h hwt
theorem HSt.ne {base : Nat} {w : World} {g tot : Nat} {bs ms : List UInt8} {v : Value} (h : HSt w g bs tot) (ho : OwnBs base w v ms) : some g ≠ v.ownBlock := by
  obtain ⟨wt, h1, h2, hB⟩ := h
  exact ho.ne hB (fun c f e => by injection e with _ e _; exact absurd e (by decide))
theorem OwnBs.rbO {base : Nat} {w : World} {A : Option Addr} {n c : Nat} {bs : List UInt8} (h : OwnBs base w (.slice A n c) bs) : RB w A bs := by
  obtain ⟨A2, n2, c2, e, h1, h2⟩ := h.form
  injection e with e1 e2 e3
  subst e1
  exact h1
def PcS (w : World) (g : Nat) (acc : List UInt8) (v : Value) (wr : World) : Prop := OwnBs w.heap.size wr v acc ∧ HSt wr g acc acc.length ∧ Below w.heap.size w wr
theorem PcS.later {w wr w1 : World} {g : Nat} {acc : List UInt8} {v : Value} (h : PcS w g acc v wr) (hb : Below wr.heap.size wr w1) : PcS w g acc v w1 :=
  ⟨h.1.below hb (Nat.le_refl _), h.2.1.below hb, h.2.2.then_ hb⟩
set_option maxRecDepth 100000 in
set_option maxHeartbeats 4000000 in
theorem digest2Pieces_walk (A : Option Addr) (n c : Nat) (bss : List (List UInt8)) {w : World} (hr : Own29 w A n c bss) (hT : Tab w) :
    Calls Tryd.prog 5 #[.slice A n c] w fun e w' => e = .returned (.bool true) ∧ Below w.heap.size w w' := by
  obtain ⟨hr, hn, hc, hcm⟩ := hr
  have H0 := Lib.hid (And.intro hT hr)
  have hw0 := hT.2
  clear hT hr
  go_enter Tryd.func5, Tryd.ntmps5
  go_wp2_with fail
  refine (alive_calls _ H0.out.1).mono ?_
  rintro e w1 ⟨rfl, b1⟩
  have B1 := Lib.hid b1
  clear b1
  go_wp2_with fail
  refine (new_calls _).mono ?_
  rintro e w2 ⟨rfl, hh2, hb2⟩
  obtain ⟨g, hg⟩ : ∃ g, w1.heap.size = g := ⟨_, rfl⟩
  rw [hg] at hh2 ⊢
  have H2 : Hid (PcS w g [] (.slice none 0 0) w2) := Lib.hid ⟨OwnBs.nil _ _, hh2, B1.out.then_ hb2⟩
  have hgw : w.heap.size ≤ g := by have := B1.out.size; omega
  clear hh2 hb2 hg B1
  go_wp2_with fail
  go_loopw [4, 12] (fun v i wr => ∃ k acc, k ≤ n ∧ acc.length ≤ 8192 ∧ i = .int .i64 (k : Nat) ∧ PcS w g acc v wr) (fun _ i _ => n - (intOf i).toNat)
  case atStart => exact ⟨0, [], Nat.zero_le _, by simp, rfl, H2.out⟩
  case round =>
    clear H2
    obtain ⟨k, acc, hk, hal, rfl, hps⟩ := hrel
    have HP := Lib.hid hps
    clear hps
    obtain ⟨A1, n1, c1, rfl, hrb1, hn1, hc1⟩ := HP.out.1.form2
    by_cases hlt : k < n
    · obtain ⟨b, off, Ak, nk, ck, rfl, hb, hcell, hrk, hnk, hck, hckm⟩ := H0.out.2 k (by rw [← hn.out]; exact hlt)
      obtain ⟨ps, hps⟩ : ∃ ps, bss.getD k [] = ps := ⟨_, rfl⟩
      rw [hps] at hrk hnk
      have hcell := (HP.out.2.2.cell (p := ⟨b, off + k, none⟩) hb).trans hcell
      have hnb : n ≤ 2 ^ 47 := by omega
      have hnkb : nk ≤ 2 ^ 47 := by omega
      have hn1b : n1 ≤ 8192 := by rw [hn1.out]; exact hal
      have HK := Lib.hid (And.intro hrk hps)
      clear hrk hps hrb1 hckm hcm
      by_cases hbig : 8192 < n1 + nk
      · have hd : decide (8192 < (n1 : Int) + (nk : Int)) = true := by simp; omega
        go_wp2_with fail
        go_ret
        exact ⟨rfl, HP.out.2.2⟩
      · by_cases hmany : 100 < n
        · have hd : decide (8192 < (n1 : Int) + (nk : Int)) = false := by simp; omega
          have hd2 : decide (100 < (n : Int)) = true := by simp; omega
          go_wp2_with fail
          go_ret
          exact ⟨rfl, HP.out.2.2⟩
        · have hd : decide (8192 < (n1 : Int) + (nk : Int)) = false := by simp; omega
          have hd2 : decide (100 < (n : Int)) = false := by simp; omega
          go_wp2_with (at_builtin; refine wpList_append_rb rfl (.tmp 27) (.tmp 28) rfl w.heap.size _ _ rfl HP.out.1 Ak nk ck ps rfl (HK.out.1.below HP.out.2.2) hnk (by omega) HP.out.2.2.size ?_; intro v2 w4 hown2 hgrow2)
          have hne : some g ≠ (Value.slice A1 n1 c1).ownBlock := HP.out.2.1.ne HP.out.1
          have hP4 : OwnBs w.heap.size w4 v2 (acc ++ ps) ∧ HSt w4 g acc acc.length ∧ Below w.heap.size w w4 :=
            ⟨hown2, HP.out.2.1.keptR hgrow2 hne, HP.out.2.2.grown hgrow2 HP.out.2.2.size (fun k hk => (HP.out.1.lt k hk).1)⟩
          have HP4 := Lib.hid hP4
          obtain ⟨A5, n5, c5, rfl, _, hn5, hc5⟩ := HP4.out.1.form2
          have hpl : acc.length + ps.length ≤ 8192 := by rw [← hn1.out, ← hnk.out]; omega
          clear hP4 hown2 hgrow2 hne HP hn1 hc1 hd hd2 hn1b hbig
          refine (write_calls g acc ps (by omega) Ak nk ck hnk hck w4 (H0.out.1.later HP4.out.2.2) (by omega) (HK.out.1.below HP4.out.2.2) (fun h x o e => by
            obtain ⟨x2, o2, h2, hx2⟩ := HK.out.1.some h
            rw [e] at h2; injection h2 with h2; injection h2 with h2
            omega) HP4.out.2.1).mono ?_
          rintro e w5 ⟨rfl, hh5, hg5⟩
          rw [← List.length_append] at hh5
          have hp5 : PcS w g (acc ++ ps) (.slice A5 n5 c5) w5 := ⟨HP4.out.1.kept hg5 (.inr (fun h => HP4.out.2.1.ne HP4.out.1 h.symm)), hh5, HP4.out.2.2.gb hg5 hgw HP4.out.2.2.size⟩
          have HP5 := Lib.hid hp5
          clear hp5 hh5 hg5 HP4 hnk hck hnkb HK hcell hal
          obtain ⟨xs, hxs⟩ : ∃ l, acc ++ ps = l := ⟨_, rfl⟩
          have hxl : xs.length ≤ 8192 := by rw [← hxs, List.length_append]; exact hpl
          rw [hxs] at HP5 hn5
          clear hxs hpl
          go_wp2_with fail
          refine (sum_calls g xs (by omega) w5 (H0.out.1.later HP5.out.2.2) (by omega) HP5.out.2.1).mono ?_
          rintro e w6 ⟨rfl, hb6⟩
          have HP6 := Lib.hid (HP5.out.later hb6)
          obtain ⟨D1, hD1⟩ : ∃ d, (u8b (digest xs)).toArray = d := ⟨_, rfl⟩
          rw [hD1]
          have HD := Lib.hid hD1
          have hq1 : ∀ W, (binOp .neq 24 (.agg D1) (.agg D1)).run Tryd.prog W = .ok (.bool false) W := fun W => by rw [← hD1]; exact nsameD _ (digest_len _) W
          have hgd := guardD
          clear hb6 HP5 hD1
          go_wp2_with fail
          refine (of_calls xs (by omega) A5 n5 c5 hn5 hc5 _ (H0.out.1.later HP6.out.2.2) HP6.out.1.rbO).mono ?_
          rintro e w7 ⟨rfl, hb7⟩
          rw [HD.out]
          have HP7 := Lib.hid (HP6.out.later hb7)
          clear hb7 HP6 hn5 hc5
          go_wp2_with fail
          go_roundw
          case rel => exact ⟨k + 1, xs, by omega, hxl, by go_num, HP7.out⟩
          case measure => simp [intOf]; omega
    · clear hcm
      go_wp2_with fail
      refine (sum_calls g acc (by omega) wr (H0.out.1.later HP.out.2.2) (by omega) HP.out.2.1).mono ?_
      rintro e w6 ⟨rfl, hb6⟩
      have HP6 := Lib.hid (HP.out.later hb6)
      obtain ⟨D1, hD1⟩ : ∃ d, (u8b (digest acc)).toArray = d := ⟨_, rfl⟩
      rw [hD1]
      have HD := Lib.hid hD1
      have hq1 : ∀ W, (binOp .eql 24 (.agg D1) (.agg D1)).run Tryd.prog W = .ok (.bool true) W := fun W => by rw [← hD1]; exact sameD _ (digest_len _) W
      have hgd := guardD
      clear hb6 HP hD1 hrb1
      go_wp2_with fail
      refine (of_calls acc (by omega) A1 n1 c1 hn1 hc1 _ (H0.out.1.later HP6.out.2.2) HP6.out.1.rbO).mono ?_
      rintro e w7 ⟨rfl, hb7⟩
      rw [HD.out]
      have HP7 := Lib.hid (HP6.out.later hb7)
      clear hb7 HP6 hn1 hc1
      go_wp2_with fail
      go_ret
      exact ⟨rfl, HP7.out.2.2⟩
end Go.Proofs.YtjdgccgpkmimkaaDoor
