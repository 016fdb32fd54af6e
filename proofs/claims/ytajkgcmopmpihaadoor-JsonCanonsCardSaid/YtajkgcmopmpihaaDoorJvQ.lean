/- Layer 9: the document's writer: values without parts. -/
import Derived.Test.YtajkgcmopmpihaaDoorJvR
import Derived.Test.YtajkgcmopmpihaaDoorJvV
namespace Go.Proofs.YtajkgcmopmpihaaDoor
open Go.ChangeShapes Go.WideShapes Go.ChangeAt Go.RowKit Go.IntWalk
set_option linter.unusedVariables false
set_option maxRecDepth 100000

set_option maxHeartbeats 4000000 in
theorem refval_bad (kd : Int) (is : Bool) (n : Int) (s : List UInt8) (l m : JT) (deep : Nat) (dI : Int) (base : Nat) (v : Value) (b : List UInt8) (w : World) (A B : Option Addr) (nl cl nm cm : Nat) (hB : base ≤ w.heap.size) (rl : Room nl cl l.ext) (rm : Room nm cm m.ext) (hf : Fit kd n s) (h : OwnBs base w v b) (hb : b.length ≤ 65536) (hT : PowT base w) (hj : (⟨kd, is, n, s, l, m⟩ : Jv).bare = false) :
    Calls Tryd.prog 10 #[v, .agg #[.int .i64 kd, .bool is, .int .i64 n, .string ⟨s.toArray⟩, .slice A nl cl, .slice B nm cm], .int .i64 dI] w (REnd base w (wrV ⟨kd, is, n, s, l, m⟩ deep b)) := by
  have HS := fun w => refbare_calls ⟨kd, is, n, s, l, m⟩ A B nl cl nm cm w rl rm
  have HE := Lib.hid (wrV_bad hj deep b)
  simp only [hj] at HS
  clear rl rm hf hT hj h
  try dsimp only at *
  go_enter Tryd.func10, Tryd.ntmps10
  go_wp2_with fail
  refine (HS _).mono ?_
  rintro e w1 ⟨rfl, b1⟩
  go_wp2_with fail
  go_ret2
  exact REnd.bad HE.out (Nb.of_below (((Below.refl _ _).alloc (Nat.le_refl _) _).trans (b1.mono (by simp))) hB) (by decide)
set_option maxHeartbeats 4000000 in
theorem refval_0 (is : Bool) (n : Int) (s : List UInt8) (l m : JT) (deep : Nat) (dI : Int) (base : Nat) (v : Value) (b : List UInt8) (w : World) (A B : Option Addr) (nl cl nm cm : Nat) (hB : base ≤ w.heap.size) (rl : Room nl cl l.ext) (rm : Room nm cm m.ext) (hf : Fit 0 n s) (h : OwnBs base w v b) (hb : b.length ≤ 65536) (hT : PowT base w) (hj : (⟨0, is, n, s, l, m⟩ : Jv).bare = true) :
    Calls Tryd.prog 10 #[v, .agg #[.int .i64 0, .bool is, .int .i64 n, .string ⟨s.toArray⟩, .slice A nl cl, .slice B nm cm], .int .i64 dI] w (REnd base w (wrV ⟨0, is, n, s, l, m⟩ deep b)) := by
  have HS := fun w => refbare_calls ⟨0, is, n, s, l, m⟩ A B nl cl nm cm w rl rm
  have E0 := Lib.hid (wrV_0 (v := ⟨0, is, n, s, l, m⟩) hj rfl deep b)
  simp only [hj] at HS
  have H := Lib.hid h
  have HX := Lib.hid (And.intro hT hf)
  clear rl rm hf hT hj h
  try dsimp only at *
  have HE := Lib.hid (show wrV ⟨0, is, n, s, l, m⟩ deep b = lng (b ++ [110, 117, 108, 108]) by rw [E0.out])
  clear E0
  cases hr : (lng (b ++ [110, 117, 108, 108]) : Res)
  all_goals
    have HR2 := Lib.hid hr
    clear hr
    go_enter Tryd.func10, Tryd.ntmps10
    go_wp2_with fail
    refine (HS _).mono ?_
    rintro e w1 ⟨rfl, b1⟩
    have hb1 : Below w.heap.size w w1 := ((Below.refl _ _).alloc (Nat.le_refl _) _).trans (b1.mono (by simp))
    have bx := (Blk.new w [.int .i64 0, .bool is, .int .i64 n, .string ⟨s.toArray⟩, .slice A nl cl, .slice B nm cm] 25).later b1
    have d0 := bx.cell (k := 0) rfl
    have d1 := bx.cell (k := 1) rfl
    have d2 := bx.cell (k := 2) rfl
    have d3 := bx.cell (k := 3) rfl
    have d4 := bx.cell (k := 4) rfl
    have d5 := bx.cell (k := 5) rfl
    have HB1 := Lib.hid hb1
    have hB1 : base ≤ w1.heap.size := Nat.le_trans hB hb1.size
    have BX := Lib.hid bx
    clear b1 hb1 bx
    have HO1 := Lib.hid (H.out.nbx HB1.out)
    go_wp2_with (at_builtin; refine wpList_append_st rfl _ _ rfl base v b rfl HO1.out [110, 117, 108, 108] rfl (by simp; omega) hB1 ?_; intro v2 w2 own2 gb2; have n2 := Lib.hid ((Nb.of_below HB1.out hB).trans (Nb.of_gb gb2 HO1.out hB1)); have own2' := Lib.hid own2; clear own2 gb2)
    refine (reflong_calls base v2 _ _ own2'.out).mono ?_
    intro e w3 hE
    first | (obtain ⟨n3, hx, rfl⟩ := REnd.of_bad HR2.out hE; clear hE; have N3 := Lib.hid n3; clear n3) | (obtain ⟨n3, hl3, v3, rfl, o3⟩ := REnd.of_ok HR2.out hE; clear hE; have N3 := Lib.hid (And.intro n3 o3); clear n3 o3)
    go_wp2_with fail
    go_ret2
  · exact REnd.bad (HE.out.trans HR2.out) (n2.out.trans N3.out) hx
  · exact REnd.ok (HE.out.trans HR2.out) (n2.out.trans N3.out.1) hl3 N3.out.2
set_option maxHeartbeats 4000000 in
theorem refval_1true (n : Int) (s : List UInt8) (l m : JT) (deep : Nat) (dI : Int) (base : Nat) (v : Value) (b : List UInt8) (w : World) (A B : Option Addr) (nl cl nm cm : Nat) (hB : base ≤ w.heap.size) (rl : Room nl cl l.ext) (rm : Room nm cm m.ext) (hf : Fit 1 n s) (h : OwnBs base w v b) (hb : b.length ≤ 65536) (hT : PowT base w) (hj : (⟨1, true, n, s, l, m⟩ : Jv).bare = true) :
    Calls Tryd.prog 10 #[v, .agg #[.int .i64 1, .bool true, .int .i64 n, .string ⟨s.toArray⟩, .slice A nl cl, .slice B nm cm], .int .i64 dI] w (REnd base w (wrV ⟨1, true, n, s, l, m⟩ deep b)) := by
  have HS := fun w => refbare_calls ⟨1, true, n, s, l, m⟩ A B nl cl nm cm w rl rm
  have E0 := Lib.hid (wrV_1 (v := ⟨1, true, n, s, l, m⟩) hj rfl deep b)
  simp only [hj] at HS
  have H := Lib.hid h
  have HX := Lib.hid (And.intro hT hf)
  clear rl rm hf hT hj h
  try dsimp only at *
  have HE := Lib.hid (show wrV ⟨1, true, n, s, l, m⟩ deep b = lng (b ++ [116, 114, 117, 101]) by rw [E0.out]; rfl)
  clear E0
  cases hr : (lng (b ++ [116, 114, 117, 101]) : Res)
  all_goals
    have HR2 := Lib.hid hr
    clear hr
    go_enter Tryd.func10, Tryd.ntmps10
    go_wp2_with fail
    refine (HS _).mono ?_
    rintro e w1 ⟨rfl, b1⟩
    have hb1 : Below w.heap.size w w1 := ((Below.refl _ _).alloc (Nat.le_refl _) _).trans (b1.mono (by simp))
    have bx := (Blk.new w [.int .i64 1, .bool true, .int .i64 n, .string ⟨s.toArray⟩, .slice A nl cl, .slice B nm cm] 25).later b1
    have d0 := bx.cell (k := 0) rfl
    have d1 := bx.cell (k := 1) rfl
    have d2 := bx.cell (k := 2) rfl
    have d3 := bx.cell (k := 3) rfl
    have d4 := bx.cell (k := 4) rfl
    have d5 := bx.cell (k := 5) rfl
    have HB1 := Lib.hid hb1
    have hB1 : base ≤ w1.heap.size := Nat.le_trans hB hb1.size
    have BX := Lib.hid bx
    clear b1 hb1 bx
    have HO1 := Lib.hid (H.out.nbx HB1.out)
    go_wp2_with (at_builtin; refine wpList_append_st rfl _ _ rfl base v b rfl HO1.out [116, 114, 117, 101] rfl (by simp; omega) hB1 ?_; intro v2 w2 own2 gb2; have n2 := Lib.hid ((Nb.of_below HB1.out hB).trans (Nb.of_gb gb2 HO1.out hB1)); have own2' := Lib.hid own2; clear own2 gb2)
    refine (reflong_calls base v2 _ _ own2'.out).mono ?_
    intro e w3 hE
    first | (obtain ⟨n3, hx, rfl⟩ := REnd.of_bad HR2.out hE; clear hE; have N3 := Lib.hid n3; clear n3) | (obtain ⟨n3, hl3, v3, rfl, o3⟩ := REnd.of_ok HR2.out hE; clear hE; have N3 := Lib.hid (And.intro n3 o3); clear n3 o3)
    go_wp2_with fail
    go_ret2
  · exact REnd.bad (HE.out.trans HR2.out) (n2.out.trans N3.out) hx
  · exact REnd.ok (HE.out.trans HR2.out) (n2.out.trans N3.out.1) hl3 N3.out.2
set_option maxHeartbeats 4000000 in
theorem refval_1false (n : Int) (s : List UInt8) (l m : JT) (deep : Nat) (dI : Int) (base : Nat) (v : Value) (b : List UInt8) (w : World) (A B : Option Addr) (nl cl nm cm : Nat) (hB : base ≤ w.heap.size) (rl : Room nl cl l.ext) (rm : Room nm cm m.ext) (hf : Fit 1 n s) (h : OwnBs base w v b) (hb : b.length ≤ 65536) (hT : PowT base w) (hj : (⟨1, false, n, s, l, m⟩ : Jv).bare = true) :
    Calls Tryd.prog 10 #[v, .agg #[.int .i64 1, .bool false, .int .i64 n, .string ⟨s.toArray⟩, .slice A nl cl, .slice B nm cm], .int .i64 dI] w (REnd base w (wrV ⟨1, false, n, s, l, m⟩ deep b)) := by
  have HS := fun w => refbare_calls ⟨1, false, n, s, l, m⟩ A B nl cl nm cm w rl rm
  have E0 := Lib.hid (wrV_1 (v := ⟨1, false, n, s, l, m⟩) hj rfl deep b)
  simp only [hj] at HS
  have H := Lib.hid h
  have HX := Lib.hid (And.intro hT hf)
  clear rl rm hf hT hj h
  try dsimp only at *
  have HE := Lib.hid (show wrV ⟨1, false, n, s, l, m⟩ deep b = lng (b ++ [102, 97, 108, 115, 101]) by rw [E0.out]; rfl)
  clear E0
  cases hr : (lng (b ++ [102, 97, 108, 115, 101]) : Res)
  all_goals
    have HR2 := Lib.hid hr
    clear hr
    go_enter Tryd.func10, Tryd.ntmps10
    go_wp2_with fail
    refine (HS _).mono ?_
    rintro e w1 ⟨rfl, b1⟩
    have hb1 : Below w.heap.size w w1 := ((Below.refl _ _).alloc (Nat.le_refl _) _).trans (b1.mono (by simp))
    have bx := (Blk.new w [.int .i64 1, .bool false, .int .i64 n, .string ⟨s.toArray⟩, .slice A nl cl, .slice B nm cm] 25).later b1
    have d0 := bx.cell (k := 0) rfl
    have d1 := bx.cell (k := 1) rfl
    have d2 := bx.cell (k := 2) rfl
    have d3 := bx.cell (k := 3) rfl
    have d4 := bx.cell (k := 4) rfl
    have d5 := bx.cell (k := 5) rfl
    have HB1 := Lib.hid hb1
    have hB1 : base ≤ w1.heap.size := Nat.le_trans hB hb1.size
    have BX := Lib.hid bx
    clear b1 hb1 bx
    have HO1 := Lib.hid (H.out.nbx HB1.out)
    go_wp2_with (at_builtin; refine wpList_append_st rfl _ _ rfl base v b rfl HO1.out [102, 97, 108, 115, 101] rfl (by simp; omega) hB1 ?_; intro v2 w2 own2 gb2; have n2 := Lib.hid ((Nb.of_below HB1.out hB).trans (Nb.of_gb gb2 HO1.out hB1)); have own2' := Lib.hid own2; clear own2 gb2)
    refine (reflong_calls base v2 _ _ own2'.out).mono ?_
    intro e w3 hE
    first | (obtain ⟨n3, hx, rfl⟩ := REnd.of_bad HR2.out hE; clear hE; have N3 := Lib.hid n3; clear n3) | (obtain ⟨n3, hl3, v3, rfl, o3⟩ := REnd.of_ok HR2.out hE; clear hE; have N3 := Lib.hid (And.intro n3 o3); clear n3 o3)
    go_wp2_with fail
    go_ret2
  · exact REnd.bad (HE.out.trans HR2.out) (n2.out.trans N3.out) hx
  · exact REnd.ok (HE.out.trans HR2.out) (n2.out.trans N3.out.1) hl3 N3.out.2
set_option maxHeartbeats 4000000 in
theorem refval_2 (is : Bool) (n : Int) (s : List UInt8) (l m : JT) (deep : Nat) (dI : Int) (base : Nat) (v : Value) (b : List UInt8) (w : World) (A B : Option Addr) (nl cl nm cm : Nat) (hB : base ≤ w.heap.size) (rl : Room nl cl l.ext) (rm : Room nm cm m.ext) (hf : Fit 2 n s) (h : OwnBs base w v b) (hb : b.length ≤ 65536) (hT : PowT base w) (hj : (⟨2, is, n, s, l, m⟩ : Jv).bare = true) :
    Calls Tryd.prog 10 #[v, .agg #[.int .i64 2, .bool is, .int .i64 n, .string ⟨s.toArray⟩, .slice A nl cl, .slice B nm cm], .int .i64 dI] w (REnd base w (wrV ⟨2, is, n, s, l, m⟩ deep b)) := by
  have HS := fun w => refbare_calls ⟨2, is, n, s, l, m⟩ A B nl cl nm cm w rl rm
  have E0 := Lib.hid (wrV_2 (v := ⟨2, is, n, s, l, m⟩) hj rfl deep b)
  simp only [hj] at HS
  have H := Lib.hid h
  have HX := Lib.hid (And.intro hT hf)
  clear rl rm hf hT hj h
  try dsimp only at *
  have HE := Lib.hid (show wrV ⟨2, is, n, s, l, m⟩ deep b = lng (b ++ Lib.itoa n) by rw [E0.out])
  clear E0
  cases hr : (lng (b ++ Lib.itoa n) : Res)
  all_goals
    have HR2 := Lib.hid hr
    clear hr
    go_enter Tryd.func10, Tryd.ntmps10
    go_wp2_with fail
    refine (HS _).mono ?_
    rintro e w1 ⟨rfl, b1⟩
    have hb1 : Below w.heap.size w w1 := ((Below.refl _ _).alloc (Nat.le_refl _) _).trans (b1.mono (by simp))
    have bx := (Blk.new w [.int .i64 2, .bool is, .int .i64 n, .string ⟨s.toArray⟩, .slice A nl cl, .slice B nm cm] 25).later b1
    have d0 := bx.cell (k := 0) rfl
    have d1 := bx.cell (k := 1) rfl
    have d2 := bx.cell (k := 2) rfl
    have d3 := bx.cell (k := 3) rfl
    have d4 := bx.cell (k := 4) rfl
    have d5 := bx.cell (k := 5) rfl
    have HB1 := Lib.hid hb1
    have hB1 : base ≤ w1.heap.size := Nat.le_trans hB hb1.size
    have BX := Lib.hid bx
    clear b1 hb1 bx
    have HO1 := Lib.hid (H.out.nbx HB1.out)
    go_wp2_with fail
    refine (itoa_calls base n HX.out.2.2.1.1 HX.out.2.2.1.2 _ (HX.out.1.blw (HB1.out.mono hB))).mono ?_
    rintro e w2 ⟨rfl, b2⟩
    have HB2 := Lib.hid (HB1.out.trans (b2.mono HB1.out.size))
    have hB2 : base ≤ w2.heap.size := Nat.le_trans hB1 b2.size
    have HO2 := Lib.hid (H.out.nbx HB2.out)
    have hil := itoa_le n HX.out.2.2.1.1 HX.out.2.2.1.2
    clear b2
    go_wp2_with (at_builtin; refine wpList_append_st rfl _ _ rfl base v b rfl HO2.out (Lib.itoa n) rfl (by omega) hB2 ?_; intro v2 w9 own2 gb2; have n2 := Lib.hid ((Nb.of_below HB2.out hB).trans (Nb.of_gb gb2 HO2.out hB2)); have own2' := Lib.hid own2; clear own2 gb2)
    refine (reflong_calls base v2 _ _ own2'.out).mono ?_
    intro e w3 hE
    first | (obtain ⟨n3, hx, rfl⟩ := REnd.of_bad HR2.out hE; clear hE; have N3 := Lib.hid n3; clear n3) | (obtain ⟨n3, hl3, v3, rfl, o3⟩ := REnd.of_ok HR2.out hE; clear hE; have N3 := Lib.hid (And.intro n3 o3); clear n3 o3)
    go_wp2_with fail
    go_ret2
  · exact REnd.bad (HE.out.trans HR2.out) (n2.out.trans N3.out) hx
  · exact REnd.ok (HE.out.trans HR2.out) (n2.out.trans N3.out.1) hl3 N3.out.2
set_option maxHeartbeats 4000000 in
theorem refval_3 (is : Bool) (n : Int) (s : List UInt8) (l m : JT) (deep : Nat) (dI : Int) (base : Nat) (v : Value) (b : List UInt8) (w : World) (A B : Option Addr) (nl cl nm cm : Nat) (hB : base ≤ w.heap.size) (rl : Room nl cl l.ext) (rm : Room nm cm m.ext) (hf : Fit 3 n s) (h : OwnBs base w v b) (hb : b.length ≤ 65536) (hT : PowT base w) (hj : (⟨3, is, n, s, l, m⟩ : Jv).bare = true) :
    Calls Tryd.prog 10 #[v, .agg #[.int .i64 3, .bool is, .int .i64 n, .string ⟨s.toArray⟩, .slice A nl cl, .slice B nm cm], .int .i64 dI] w (REnd base w (wrV ⟨3, is, n, s, l, m⟩ deep b)) := by
  have HS := fun w => refbare_calls ⟨3, is, n, s, l, m⟩ A B nl cl nm cm w rl rm
  have E0 := Lib.hid (wrV_3 (v := ⟨3, is, n, s, l, m⟩) hj rfl deep b)
  simp only [hj] at HS
  have H := Lib.hid h
  have HX := Lib.hid (And.intro hT hf)
  clear rl rm hf hT hj h
  try dsimp only at *
  have HE := Lib.hid (show wrV ⟨3, is, n, s, l, m⟩ deep b = txt b s by rw [E0.out])
  clear E0
  cases hr : (txt b s : Res)
  all_goals
    have HR2 := Lib.hid hr
    clear hr
    go_enter Tryd.func10, Tryd.ntmps10
    go_wp2_with fail
    refine (HS _).mono ?_
    rintro e w1 ⟨rfl, b1⟩
    have hb1 : Below w.heap.size w w1 := ((Below.refl _ _).alloc (Nat.le_refl _) _).trans (b1.mono (by simp))
    have bx := (Blk.new w [.int .i64 3, .bool is, .int .i64 n, .string ⟨s.toArray⟩, .slice A nl cl, .slice B nm cm] 25).later b1
    have d0 := bx.cell (k := 0) rfl
    have d1 := bx.cell (k := 1) rfl
    have d2 := bx.cell (k := 2) rfl
    have d3 := bx.cell (k := 3) rfl
    have d4 := bx.cell (k := 4) rfl
    have d5 := bx.cell (k := 5) rfl
    have HB1 := Lib.hid hb1
    have hB1 : base ≤ w1.heap.size := Nat.le_trans hB hb1.size
    have BX := Lib.hid bx
    clear b1 hb1 bx
    have HO1 := Lib.hid (H.out.nbx HB1.out)
    go_wp2_with fail
    refine (reftext_calls base v b s _ HO1.out hb hB1 HX.out.2.2.2).mono ?_
    intro e w3 hE
    first | (obtain ⟨n3, hx, rfl⟩ := REnd.of_bad HR2.out hE; clear hE; have N3 := Lib.hid n3; clear n3) | (obtain ⟨n3, hl3, v3, rfl, o3⟩ := REnd.of_ok HR2.out hE; clear hE; have N3 := Lib.hid (And.intro n3 o3); clear n3 o3)
    go_wp2_with fail
    go_ret2
  · exact REnd.bad (HE.out.trans HR2.out) ((Nb.of_below HB1.out hB).trans N3.out) hx
  · exact REnd.ok (HE.out.trans HR2.out) ((Nb.of_below HB1.out hB).trans N3.out.1) hl3 N3.out.2
end Go.Proofs.YtajkgcmopmpihaaDoor
