/- Layer 7: digests of pieces, walked. -/
import Derived.Test.YtkfdclnaaphdgaaDoorDmB
import Derived.Test.YtkfdclnaaphdgaaDoorSmB
import Derived.Test.YtkfdclnaaphdgaaDoorRows8
import Derived.Test.YtkfdclnaaphdgaaDoorCvG
namespace Go.Proofs.YtkfdclnaaphdgaaDoor
open Go.ChangeShapes Go.WideShapes Go.ChangeAt Go.RowKit Go.IntWalk
set_option linter.unusedVariables false

/-- The slice at 'A' reads slices of bytes, bss. -/
def RBq (w : World) (A : Option Addr) (bss : List (List UInt8)) : Prop :=
  ∀ k, k < bss.length → ∃ b off Ak nk ck, A = some ⟨b, off, none⟩ ∧ b < w.heap.size ∧ w.cell? ⟨b, off + k, none⟩ = some (.slice Ak nk ck) ∧ RB w Ak (bss.getD k []) ∧ Hid (nk = (bss.getD k []).length) ∧ nk ≤ ck
theorem RBq.below {w w' : World} {A : Option Addr} {bss : List (List UInt8)} (h : RBq w A bss) (hb : Below w.heap.size w w') : RBq w' A bss := by
  intro k hk
  obtain ⟨b, off, Ak, nk, ck, rfl, hlt, hc, hr, hn⟩ := h k hk
  exact ⟨b, off, Ak, nk, ck, rfl, by have := hb.size; omega, (hb.cell (p := ⟨b, off + k, none⟩) hlt).trans hc, hr.below hb, hn⟩
theorem rbq1 {W : World} {g : Nat} {T : TypeId} {A1 : Option Addr} {n1 c1 : Nat} {b1 : List UInt8} (hB : Blk W g T [.slice A1 n1 c1]) (h1 : RB W A1 b1) (e1 : Hid (n1 = b1.length)) (l1 : n1 ≤ c1) : RBq W (some ⟨g, 0, none⟩) [b1] := by
  intro k hk
  obtain rfl : k = 0 := by simpa using hk
  exact ⟨g, 0, A1, n1, c1, rfl, hB.lt, hB.cell rfl, h1, e1, l1⟩
theorem rbq2 {W : World} {g : Nat} {T : TypeId} {A1 A2 : Option Addr} {n1 c1 n2 c2 : Nat} {b1 b2 : List UInt8} (hB : Blk W g T [.slice A1 n1 c1, .slice A2 n2 c2]) (h1 : RB W A1 b1) (e1 : Hid (n1 = b1.length)) (l1 : n1 ≤ c1)
    (h2 : RB W A2 b2) (e2 : Hid (n2 = b2.length)) (l2 : n2 ≤ c2) : RBq W (some ⟨g, 0, none⟩) [b1, b2] := by
  intro k hk
  have : k = 0 ∨ k = 1 := by simp at hk; omega
  rcases this with rfl | rfl
  · exact ⟨g, 0, A1, n1, c1, rfl, hB.lt, hB.cell rfl, h1, e1, l1⟩
  · exact ⟨g, 0, A2, n2, c2, rfl, hB.lt, hB.cell rfl, h2, e2, l2⟩
theorem rbq3 {W : World} {g : Nat} {T : TypeId} {A1 A2 A3 : Option Addr} {n1 c1 n2 c2 n3 c3 : Nat} {b1 b2 b3 : List UInt8} (hB : Blk W g T [.slice A1 n1 c1, .slice A2 n2 c2, .slice A3 n3 c3]) (h1 : RB W A1 b1) (e1 : Hid (n1 = b1.length)) (l1 : n1 ≤ c1)
    (h2 : RB W A2 b2) (e2 : Hid (n2 = b2.length)) (l2 : n2 ≤ c2) (h3 : RB W A3 b3) (e3 : Hid (n3 = b3.length)) (l3 : n3 ≤ c3) : RBq W (some ⟨g, 0, none⟩) [b1, b2, b3] := by
  intro k hk
  have : k = 0 ∨ k = 1 ∨ k = 2 := by simp at hk; omega
  rcases this with rfl | rfl | rfl
  · exact ⟨g, 0, A1, n1, c1, rfl, hB.lt, hB.cell rfl, h1, e1, l1⟩
  · exact ⟨g, 0, A2, n2, c2, rfl, hB.lt, hB.cell rfl, h2, e2, l2⟩
  · exact ⟨g, 0, A3, n3, c3, rfl, hB.lt, hB.cell rfl, h3, e3, l3⟩
def catN (bss : List (List UInt8)) (k : Nat) : List UInt8 := (bss.take k).flatten
theorem catN_step (bss : List (List UInt8)) (k : Nat) (hk : k < bss.length) : catN bss (k + 1) = catN bss k ++ bss.getD k [] := by
  unfold catN
  rw [List.take_add_one, List.getElem?_eq_getElem hk, List.flatten_append]
  simp only [Option.toList_some, List.flatten_cons, List.flatten_nil, List.append_nil, List.getD_eq_getElem?_getD, List.getElem?_eq_getElem hk, Option.getD_some]
theorem catN_all (bss : List (List UInt8)) (k : Nat) (hk : bss.length ≤ k) : catN bss k = bss.flatten := by
  unfold catN; rw [List.take_of_length_le hk]
theorem catN_le (bss : List (List UInt8)) (k : Nat) : (catN bss k).length ≤ bss.flatten.length := by
  have h : bss.flatten = catN bss k ++ (bss.drop k).flatten := by
    unfold catN; rw [← List.flatten_append, List.take_append_drop]
  rw [h, List.length_append]; omega
def Z64 : List Value := Dh.u8b (List.replicate 64 0)
def DgS (w : World) (g : Nat) (acc : List UInt8) (wr : World) : Prop := Dh.HSt wr g acc acc.length ∧ Blk wr w.heap.size 28 Z64 ∧ Below w.heap.size w wr
theorem size64b : (Tryd.prog.info? 28).map (·.size) = some 64 := by kernel_rfl
set_option maxRecDepth 100000 in
set_option maxHeartbeats 4000000 in
theorem digested_calls (A : Option Addr) (n c : Nat) (bss : List (List UInt8)) (hn : Hid (n = bss.length)) (hc : n ≤ c) (hcm : c ≤ 2 ^ 47) (hlen : bss.flatten.length < 2 ^ 30) (w : World) (hT : Dh.Tab w) (hr : RBq w A bss) :
    Calls Tryd.prog 37 #[.slice A n c] w fun e w' => e = .returned (.agg (Dh.u8b (Dh.digest bss.flatten)).toArray) ∧ Below w.heap.size w w' := by
  have H0 := Lib.hid (And.intro hT hr)
  have hTw := hT.2
  clear hT hr
  go_enter Tryd.func37, Tryd.ntmps37
  go_upto_region 1 with (fail)
  refine wp_gen (fun W1 => Blk W1 w.heap.size 28 Z64 ∧ Below w.heap.size w W1) (alloc1 w Z64 28) ?_
  rintro W1 ⟨hz1, hb1⟩
  go_wp2_with fail
  refine (Dh.new_calls _).mono ?_
  rintro e w2 ⟨rfl, hh2, hb2⟩
  have hW1 : w.heap.size < W1.heap.size := hz1.lt
  obtain ⟨g, hg⟩ : ∃ g, W1.heap.size = g := ⟨_, rfl⟩
  have H2 : Hid (DgS w g [] w2) := Lib.hid ⟨hg ▸ hh2, hz1.later hb2, hb1.then_ hb2⟩
  rw [hg] at hW1 ⊢
  have HGW := Lib.hid hW1
  have HTW := Lib.hid hTw
  clear hz1 hb1 hh2 hb2 hg hW1 hTw
  go_wp2_with fail
  go_loopw [9] (fun i wr => ∃ k, k ≤ n ∧ i = .int .i64 (k : Nat) ∧ DgS w g (catN bss k) wr) (fun i _ => n - (intOf i).toNat)
  case atStart => exact ⟨0, Nat.zero_le _, rfl, H2.out⟩
  case round =>
    clear H2
    obtain ⟨k, hk, rfl, hps⟩ := hrel
    have HP := Lib.hid hps
    clear hps
    have hnb : n ≤ 2 ^ 47 := by omega
    by_cases hlt : k < n
    · obtain ⟨b, off, Ak, nk, ck, rfl, hb, hcell, hrk, hnk, hck⟩ := H0.out.2 k (by rw [← hn.out]; exact hlt)
      have hcat := catN_step bss k (by rw [← hn.out]; exact hlt)
      have hle := catN_le bss (k + 1)
      obtain ⟨ps, hps⟩ : ∃ ps, bss.getD k [] = ps := ⟨_, rfl⟩
      rw [hps] at hrk hnk hcat
      rw [hcat, List.length_append] at hle
      have hcell := (HP.out.2.2.cell (p := ⟨b, off + k, none⟩) hb).trans hcell
      have HK := Lib.hid (And.intro hrk (And.intro hcat (And.intro hnk (And.intro hck hle))))
      clear hrk hps hcm hc hcat hle hnk hck
      go_wp2_with fail
      have hgw := HGW.out
      have htw := HTW.out
      refine (Dh.write_calls g (catN bss k) ps (by have := HK.out.2.2.2.2; omega) Ak nk ck HK.out.2.2.1 HK.out.2.2.2.1 wr (H0.out.1.later HP.out.2.2) (by omega) (HK.out.1.below HP.out.2.2) (fun h x o e => by
        obtain ⟨x2, o2, h2, hx2⟩ := HK.out.1.some h
        rw [e] at h2; injection h2 with h2; injection h2 with h2
        omega) HP.out.1).mono ?_
      rintro e w5 ⟨rfl, hh5, hg5⟩
      rw [← List.length_append, ← HK.out.2.1] at hh5
      have HP5 : Hid (DgS w g (catN bss (k + 1)) w5) := Lib.hid ⟨hh5, HP.out.2.1.kept hg5 (by omega), HP.out.2.2.gb hg5 (by omega) HP.out.2.2.size⟩
      clear hh5 hg5 HP HK hcell hgw htw
      go_wp2_with fail
      go_roundw
      case rel => exact ⟨k + 1, by omega, by go_num, HP5.out⟩
      case measure => simp [intOf]; omega
    · obtain rfl : k = n := by omega
      have hcat := catN_all bss k (by rw [← hn.out]; exact Nat.le_refl _)
      rw [hcat] at HP
      clear hcat hcm hc
      go_wp2_with fail
      have hgw := HGW.out
      have htw := HTW.out
      refine (Dh.sum_calls g bss.flatten hlen wr (H0.out.1.later HP.out.2.2) (by omega) HP.out.1).mono ?_
      rintro e w4 ⟨rfl, hb4⟩
      obtain ⟨ds, hds⟩ : ∃ d, Dh.u8b (Dh.digest bss.flatten) = d := ⟨_, rfl⟩
      have hdl : ds.length = 64 := by rw [← hds, Dh.u8b_len, Dh.digest_len]
      have hone : ds.toArray.all (·.oneCell') = true := by rw [← hds]; exact Dh.one8b _
      rw [hds]
      have hS : (Tryd.prog.info? 28).map (·.size) = some ds.toArray.size := by rw [List.size_toArray, hdl]; exact size64b
      have hS2 : (Tryd.prog.info? 28).map (·.size) = some ds.length := by rw [hdl]; exact size64b
      obtain ⟨T0, HL1, N0⟩ := ansB (cs := ds) HP.out.2.1 HP.out.2.2 (Nat.le_refl _) hb4 (by rw [hdl]; rfl)
      have HDS := Lib.hid hds
      clear hb4 HP hds hgw htw
      go_wp2_with (refine wpList_store_mid rfl 28 _ _ rfl w.heap.size 0 ds.toArray rfl rfl T0 hS hone ?_)
      exact bodyPost_ret (v := .agg ds.toArray) (res_cell rfl _ _ _ _ rfl (N0.load 28 Tryd.underlying28 rfl hS2)) rfl ⟨by rw [HDS.out], HL1⟩
set_option maxRecDepth 100000 in
set_option maxHeartbeats 4000000 in
theorem restOf_calls (A : Option Addr) (n c : Nat) (bss : List (List UInt8)) (hn : Hid (n = bss.length)) (hc : n ≤ c) (hcm : c ≤ 2 ^ 47) (hlen : bss.flatten.length < 2 ^ 30) (w : World) (hT : Dh.Tab w) (hS : Sc.Tab w) (hr : RBq w A bss) :
    Calls Tryd.prog 24 #[.slice A n c] w (Sc.BPost (Sc.leN (Dh.digest bss.flatten) % Sc.LO) w) := by
  have H0 := Lib.hid (And.intro hT (And.intro hS hr))
  clear hT hr hS
  go_enter Tryd.func24, Tryd.ntmps24
  go_upto_region 1 with (fail)
  have hl32 : C32.length = 32 := by decide
  refine wp_gen (fun W1 => Blk W1 w.heap.size 22 C32 ∧ Below w.heap.size w W1) (alloc1 w C32 22) ?_
  rintro W1 ⟨hz1, hb1⟩
  go_wp2_with fail
  refine (digested_calls A n c bss hn hc hcm hlen W1 (H0.out.1.later hb1) (H0.out.2.2.below hb1)).mono ?_
  rintro e W2 ⟨rfl, hb2⟩
  obtain ⟨dg, hdg⟩ : ∃ d, Dh.digest bss.flatten = d := ⟨_, rfl⟩
  have hdgl : dg.length = 64 := by rw [← hdg, Dh.digest_len]
  rw [hdg]
  have hz2 := hz1.later hb2
  have hw2 := hb1.then_ hb2
  obtain ⟨T0, HL0, N0⟩ := letS (W := W2) (T := 28) (z := Z64) (cs := Dh.u8b dg) (by rw [Dh.u8b_len, hdgl]; decide)
  have hS : (Tryd.prog.info? 28).map (·.size) = some (Dh.u8b dg).toArray.size := by rw [List.size_toArray, Dh.u8b_len, hdgl]; exact size64b
  have hone := Dh.one8b dg
  have hrb : RB ((W2.alloc (.cells Z64.toArray 28)).setCells W2.heap.size 0 (Dh.u8b dg)) (some ⟨W2.heap.size, 0, none⟩) dg := Sc.rb_blk N0
  obtain ⟨us, hus⟩ : ∃ q, Dh.u8b dg = q := ⟨_, rfl⟩
  rw [hus] at T0 HL0 N0 hS hone hrb ⊢
  go_upto_region 2 with (refine wpList_store_mid rfl 28 _ _ rfl W2.heap.size 0 us.toArray rfl rfl T0 hS hone ?_)
  obtain ⟨g, eg⟩ : ∃ g, W2.heap.size = g := ⟨_, rfl⟩
  rw [eg] at hrb ⊢
  have hE : Hid (W2.heap.size = g) := Lib.hid eg
  refine wp_gen (fun W => Blk W w.heap.size 22 C32 ∧ RB W (some ⟨g, 0, none⟩) dg ∧ Below w.heap.size w W) ⟨hz2.later (hE.out ▸ HL0), hrb, hw2.then_ (hE.out ▸ HL0)⟩ ?_
  clear T0 HL0 N0 hS hone hrb hE eg hus hz2 hw2 hz1 hb1 hb2
  rintro W3 ⟨hz3, hrb3, hw3⟩
  go_wp2_with fail
  refine (Sc.rest_calls (some ⟨g, 0, none⟩) 64 64 dg (Lib.hid hdgl.symm) (by decide) W3 (Sc.Tab.later H0.out.2.1 hw3) hrb3).mono ?_
  rintro e W4 ⟨rfl, hb4⟩
  obtain ⟨rs, hrs⟩ : ∃ d, Sc.u8b (Sc.leB 32 (Sc.leN dg % Sc.LO)) = d := ⟨_, rfl⟩
  have hrl : rs.length = 32 := by rw [← hrs, Sc.u8b_len, Sc.leB_len]
  have hrone : rs.toArray.all (·.oneCell') = true := by rw [← hrs]; exact Sc.one8b _
  unfold Sc.BPost Sc.A32
  rw [hrs]
  have hS : (Tryd.prog.info? 22).map (·.size) = some rs.toArray.size := by rw [List.size_toArray, hrl]; exact Sc.size32
  have hS2 : (Tryd.prog.info? 22).map (·.size) = some rs.length := by rw [hrl]; exact Sc.size32
  obtain ⟨T0, HL1, N0⟩ := ansB (cs := rs) hz3 hw3 (Nat.le_refl _) hb4 (by rw [hrl]; rfl)
  have HRS := Lib.hid hrs
  clear hb4 hz3 hw3 hrb3 hrs
  go_wp2_with (refine wpList_store_mid rfl 22 _ _ rfl w.heap.size 0 rs.toArray rfl rfl T0 hS hrone ?_)
  exact bodyPost_ret (v := .agg rs.toArray) (res_cell rfl _ _ _ _ rfl (N0.load 22 Tryd.underlying22 rfl hS2)) rfl ⟨by rw [hdg]; unfold Sc.A32; rw [HRS.out], HL1⟩
end Go.Proofs.YtkfdclnaaphdgaaDoor
