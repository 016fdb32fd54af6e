/- The sums of points are a group; what stands for a point, pure. -/
import Derived.Test.YtkfdclnaaphdgaaDoorCvA
namespace Go.Proofs.YtkfdclnaaphdgaaDoor
set_option linter.unusedVariables false

/-- What both ways of three points' sum have in common. -/
theorem assoc_x {d x1 y1 x2 y2 x3 y3 : F} (e1 : -(x1 * x1) + y1 * y1 = 1 + d * x1 * x1 * y1 * y1) (e2 : -(x2 * x2) + y2 * y2 = 1 + d * x2 * x2 * y2 * y2) (e3 : -(x3 * x3) + y3 * y3 = 1 + d * x3 * x3 * y3 * y3) :
    ((x1*y2+y1*x2)*(1-d*x1*x2*y1*y2)*y3+(y1*y2+x1*x2)*(1+d*x1*x2*y1*y2)*x3)*((1+d*x2*x3*y2*y3)*(1-d*x2*x3*y2*y3)+d*(x2*y3+y2*x3)*(y2*y3+x2*x3)*x1*y1) = (x1*(y2*y3+x2*x3)*(1+d*x2*x3*y2*y3)+y1*(x2*y3+y2*x3)*(1-d*x2*x3*y2*y3))*((1+d*x1*x2*y1*y2)*(1-d*x1*x2*y1*y2)+d*(x1*y2+y1*x2)*(y1*y2+x1*x2)*x3*y3) := by grobner
theorem assoc_y {d x1 y1 x2 y2 x3 y3 : F} (e1 : -(x1 * x1) + y1 * y1 = 1 + d * x1 * x1 * y1 * y1) (e2 : -(x2 * x2) + y2 * y2 = 1 + d * x2 * x2 * y2 * y2) (e3 : -(x3 * x3) + y3 * y3 = 1 + d * x3 * x3 * y3 * y3) :
    ((y1*y2+x1*x2)*(1+d*x1*x2*y1*y2)*y3+(x1*y2+y1*x2)*(1-d*x1*x2*y1*y2)*x3)*((1+d*x2*x3*y2*y3)*(1-d*x2*x3*y2*y3)-d*(x2*y3+y2*x3)*(y2*y3+x2*x3)*x1*y1) = (y1*(y2*y3+x2*x3)*(1+d*x2*x3*y2*y3)+x1*(x2*y3+y2*x3)*(1-d*x2*x3*y2*y3))*((1+d*x1*x2*y1*y2)*(1-d*x1*x2*y1*y2)-d*(x1*y2+y1*x2)*(y1*y2+x1*x2)*x3*y3) := by grobner
theorem Pt.add_assoc (p q r : Pt) : (p.add q).add r = p.add (q.add r) := by
  have on12 := (p.add q).on
  have on23 := (q.add r).on
  have hx12 : (p.add q).x * _ = _ := addX_eq p.on q.on
  have hy12 : (p.add q).y * _ = _ := addY_eq p.on q.on
  have hx23 : (q.add r).x * _ = _ := addX_eq q.on r.on
  have hy23 : (q.add r).y * _ = _ := addY_eq q.on r.on
  have u12 := plus_ne p.on q.on
  have v12 := minus_ne p.on q.on
  have u23 := plus_ne q.on r.on
  have v23 := minus_ne q.on r.on
  have hxl := addX_eq (p.add q).on r.on
  have hyl := addY_eq (p.add q).on r.on
  have hxr := addX_eq p.on (q.add r).on
  have hyr := addY_eq p.on (q.add r).on
  have ul := plus_ne (p.add q).on r.on
  have vl := minus_ne (p.add q).on r.on
  have ur := plus_ne p.on (q.add r).on
  have vr := minus_ne p.on (q.add r).on
  have e1 := p.on
  have e2 := q.on
  have e3 := r.on
  have AX := assoc_x e1 e2 e3
  have AY := assoc_y e1 e2 e3
  have hL : ((p.add q).add r).x = addX (p.add q).x (p.add q).y r.x r.y := rfl
  have hL2 : ((p.add q).add r).y = addY (p.add q).x (p.add q).y r.x r.y := rfl
  have hR : (p.add (q.add r)).x = addX p.x p.y (q.add r).x (q.add r).y := rfl
  have hR2 : (p.add (q.add r)).y = addY p.x p.y (q.add r).x (q.add r).y := rfl
  rw [← hL] at hxl
  rw [← hL2] at hyl
  rw [← hR] at hxr
  rw [← hR2] at hyr
  clear hL hL2 hR hR2 e1 e2 e3 on12 on23
  apply Pt.ext'
  · generalize ((p.add q).add r).x = XL at *
    generalize (p.add (q.add r)).x = XR at *
    generalize (p.add q).x = X12 at *
    generalize (p.add q).y = Y12 at *
    generalize (q.add r).x = X23 at *
    generalize (q.add r).y = Y23 at *
    generalize p.x = x1 at *
    generalize p.y = y1 at *
    generalize q.x = x2 at *
    generalize q.y = y2 at *
    generalize r.x = x3 at *
    generalize r.y = y3 at *
    generalize dF = d at *
    clear hyl hyr vl vr AY
    generalize 1 + d * x1 * x2 * y1 * y2 = u at *
    generalize 1 - d * x1 * x2 * y1 * y2 = v at *
    generalize 1 + d * x2 * x3 * y2 * y3 = u2 at *
    generalize 1 - d * x2 * x3 * y2 * y3 = v2 at *
    generalize x1 * y2 + y1 * x2 = A at *
    generalize y1 * y2 + x1 * x2 = B at *
    generalize x2 * y3 + y2 * x3 = A2 at *
    generalize y2 * y3 + x2 * x3 = B2 at *
    subst hx12 hy12 hx23 hy23
    obtain ⟨w, hw⟩ : ∃ w, 1 + d * X12 * x3 * Y12 * y3 = w := ⟨_, rfl⟩
    obtain ⟨z, hz⟩ : ∃ w, 1 + d * x1 * X23 * y1 * Y23 = w := ⟨_, rfl⟩
    rw [hw] at hxl ul
    rw [hz] at hxr ur
    have h1 : X12 * u * v * y3 + Y12 * v * u * x3 = u * v * (XL * w) := by rw [hxl]; grobner
    have h2 : u2 * v2 + d * (X23 * u2) * (Y23 * v2) * x1 * y1 = u2 * v2 * z := by rw [← hz]; grobner
    have h3 : x1 * (Y23 * v2) * u2 + y1 * (X23 * u2) * v2 = u2 * v2 * (XR * z) := by rw [hxr]; grobner
    have h4 : u * v + d * (X12 * u) * (Y12 * v) * x3 * y3 = u * v * w := by rw [← hw]; grobner
    rw [h1, h2, h3, h4] at AX
    apply fcan (fz_ne (fz_ne u12 v12) (fz_ne ul (fz_ne (fz_ne u23 v23) ur)))
    clear h1 h2 h3 h4 hw hz hxl hxr u12 v12 u23 v23 ul ur
    grobner
  · generalize ((p.add q).add r).y = XL at *
    generalize (p.add (q.add r)).y = XR at *
    generalize (p.add q).x = X12 at *
    generalize (p.add q).y = Y12 at *
    generalize (q.add r).x = X23 at *
    generalize (q.add r).y = Y23 at *
    generalize p.x = x1 at *
    generalize p.y = y1 at *
    generalize q.x = x2 at *
    generalize q.y = y2 at *
    generalize r.x = x3 at *
    generalize r.y = y3 at *
    generalize dF = d at *
    clear hxl hxr ul ur AX
    generalize 1 + d * x1 * x2 * y1 * y2 = u at *
    generalize 1 - d * x1 * x2 * y1 * y2 = v at *
    generalize 1 + d * x2 * x3 * y2 * y3 = u2 at *
    generalize 1 - d * x2 * x3 * y2 * y3 = v2 at *
    generalize x1 * y2 + y1 * x2 = A at *
    generalize y1 * y2 + x1 * x2 = B at *
    generalize x2 * y3 + y2 * x3 = A2 at *
    generalize y2 * y3 + x2 * x3 = B2 at *
    subst hx12 hy12 hx23 hy23
    obtain ⟨w, hw⟩ : ∃ w, 1 - d * X12 * x3 * Y12 * y3 = w := ⟨_, rfl⟩
    obtain ⟨z, hz⟩ : ∃ w, 1 - d * x1 * X23 * y1 * Y23 = w := ⟨_, rfl⟩
    rw [hw] at hyl vl
    rw [hz] at hyr vr
    have h1 : Y12 * v * u * y3 + X12 * u * v * x3 = u * v * (XL * w) := by rw [hyl]; grobner
    have h2 : u2 * v2 - d * (X23 * u2) * (Y23 * v2) * x1 * y1 = u2 * v2 * z := by rw [← hz]; grobner
    have h3 : y1 * (Y23 * v2) * u2 + x1 * (X23 * u2) * v2 = u2 * v2 * (XR * z) := by rw [hyr]; grobner
    have h4 : u * v - d * (X12 * u) * (Y12 * v) * x3 * y3 = u * v * w := by rw [← hw]; grobner
    rw [h1, h2, h3, h4] at AY
    apply fcan (fz_ne (fz_ne u12 v12) (fz_ne vl (fz_ne (fz_ne u23 v23) vr)))
    clear h1 h2 h3 h4 hw hz hyl hyr u12 v12 u23 v23 vl vr
    grobner
theorem Pt.zero_add (p : Pt) : Pt.zero.add p = p := by rw [Pt.add_comm]; exact p.add_zero
/-- So many times. -/
def Pt.times : Nat → Pt → Pt
  | 0, _ => Pt.zero
  | n + 1, p => (Pt.times n p).add p
theorem Pt.times_add (m n : Nat) (p : Pt) : Pt.times (m + n) p = (Pt.times m p).add (Pt.times n p) := by
  induction n with
  | zero => rw [Nat.add_zero, Pt.times, Pt.add_zero]
  | succ n ih => rw [Nat.add_succ, Pt.times, ih, Pt.times, Pt.add_assoc]
theorem Pt.times_zero (n : Nat) : Pt.times n Pt.zero = Pt.zero := by
  induction n with
  | zero => rfl
  | succ n ih => rw [Pt.times, ih, Pt.add_zero]
theorem Pt.times_plus (n : Nat) (p q : Pt) : Pt.times n (p.add q) = (Pt.times n p).add (Pt.times n q) := by
  induction n with
  | zero => rw [Pt.times, Pt.times, Pt.times, Pt.add_zero]
  | succ n ih =>
    rw [Pt.times, Pt.times, Pt.times, ih, Pt.add_assoc, Pt.add_assoc, ← Pt.add_assoc (Pt.times n q) p q, Pt.add_comm (Pt.times n q) p, Pt.add_assoc p]
theorem Pt.times_mul (m n : Nat) (p : Pt) : Pt.times (m * n) p = Pt.times m (Pt.times n p) := by
  induction m with
  | zero => rw [Nat.zero_mul, Pt.times, Pt.times]
  | succ m ih => rw [Nat.succ_mul, Pt.times_add, ih, Pt.times]
theorem Pt.times_one (p : Pt) : Pt.times 1 p = p := by rw [Pt.times, Pt.times, Pt.zero_add]
theorem Pt.times_two (p : Pt) : Pt.times 2 p = p.add p := by rw [Pt.times, Pt.times_one]
/-- Four numbers that stand for a point. -/
def Rep (X Y Z T : F) (p : Pt) : Prop := Z ≠ 0 ∧ X = p.x * Z ∧ Y = p.y * Z ∧ T = p.x * p.y * Z
theorem Rep.aff {p : Pt} {x y : F} (hx : x = p.x) (hy : y = p.y) : Rep x y 1 (x * y) p := by
  subst hx hy
  exact ⟨one_ne, (Fin.mul_one _).symm, (Fin.mul_one _).symm, (Fin.mul_one _).symm⟩
theorem Rep.mk' {p q : Pt} {E Fv G H : F} (hF : Fv ≠ 0) (hG : G ≠ 0) (h1 : E = p.x * G) (h2 : H = p.y * Fv) : Rep (E * Fv) (G * H) (Fv * G) (E * H) p := by
  subst h1 h2
  refine ⟨fz_ne hF hG, ?_, ?_, ?_⟩ <;> (generalize p.x = x; generalize p.y = y; clear hF hG; grobner)
/-- The sum without dividing, as the program makes it: twice of all. -/
theorem Rep.plus {X1 Y1 Z1 T1 X2 Y2 Z2 T2 : F} {p q : Pt} (h1 : Rep X1 Y1 Z1 T1 p) (h2 : Rep X2 Y2 Z2 T2 q) :
    Rep (((Y1 + X1) * (Y2 + X2) - (Y1 - X1) * (Y2 - X2)) * (Z1 * Z2 + Z1 * Z2 - T1 * T2 * (dF + dF)))
      ((Z1 * Z2 + Z1 * Z2 + T1 * T2 * (dF + dF)) * ((Y1 + X1) * (Y2 + X2) + (Y1 - X1) * (Y2 - X2)))
      ((Z1 * Z2 + Z1 * Z2 - T1 * T2 * (dF + dF)) * (Z1 * Z2 + Z1 * Z2 + T1 * T2 * (dF + dF)))
      (((Y1 + X1) * (Y2 + X2) - (Y1 - X1) * (Y2 - X2)) * ((Y1 + X1) * (Y2 + X2) + (Y1 - X1) * (Y2 - X2))) (p.add q) := by
  obtain ⟨z1, rfl, rfl, rfl⟩ := h1
  obtain ⟨z2, rfl, rfl, rfl⟩ := h2
  have hx : (p.add q).x * _ = _ := addX_eq p.on q.on
  have hy : (p.add q).y * _ = _ := addY_eq p.on q.on
  have hu := plus_ne p.on q.on
  have hv := minus_ne p.on q.on
  have hz := fz_ne z1 z2
  refine Rep.mk' (q := q) ?_ ?_ ?_ ?_
  · have := fz_ne two_ne (fz_ne hz hv)
    intro h; apply this; rw [← h]
    clear hx hy hu hv hz z1 z2 this h
    generalize dF = d; generalize p.x = x1; generalize p.y = y1; generalize q.x = x2; generalize q.y = y2
    grobner
  · have := fz_ne two_ne (fz_ne hz hu)
    intro h; apply this; rw [← h]
    clear hx hy hu hv hz z1 z2 this h
    generalize dF = d; generalize p.x = x1; generalize p.y = y1; generalize q.x = x2; generalize q.y = y2
    grobner
  · clear hy hu hv hz z1 z2
    generalize (p.add q).x = X3 at *
    generalize dF = d at *; generalize p.x = x1 at *; generalize p.y = y1 at *; generalize q.x = x2 at *; generalize q.y = y2 at *
    grobner
  · clear hx hu hv hz z1 z2
    generalize (p.add q).y = Y3 at *
    generalize dF = d at *; generalize p.x = x1 at *; generalize p.y = y1 at *; generalize q.x = x2 at *; generalize q.y = y2 at *
    grobner
/-- .. and as the document does. -/
theorem Rep.sum {X1 Y1 Z1 T1 X2 Y2 Z2 T2 : F} {p q : Pt} (h1 : Rep X1 Y1 Z1 T1 p) (h2 : Rep X2 Y2 Z2 T2 q) :
    Rep (((X1 + Y1) * (X2 + Y2) - (X1 * X2 + Y1 * Y2)) * (Z1 * Z2 - T1 * T2 * dF))
      ((Z1 * Z2 + T1 * T2 * dF) * (Y1 * Y2 + X1 * X2))
      ((Z1 * Z2 - T1 * T2 * dF) * (Z1 * Z2 + T1 * T2 * dF))
      (((X1 + Y1) * (X2 + Y2) - (X1 * X2 + Y1 * Y2)) * (Y1 * Y2 + X1 * X2)) (p.add q) := by
  obtain ⟨z1, rfl, rfl, rfl⟩ := h1
  obtain ⟨z2, rfl, rfl, rfl⟩ := h2
  have hx : (p.add q).x * _ = _ := addX_eq p.on q.on
  have hy : (p.add q).y * _ = _ := addY_eq p.on q.on
  have hu := plus_ne p.on q.on
  have hv := minus_ne p.on q.on
  have hz := fz_ne z1 z2
  refine Rep.mk' (q := q) ?_ ?_ ?_ ?_
  · have := fz_ne hz hv
    intro h; apply this; rw [← h]
    clear hx hy hu hv hz z1 z2 this h
    generalize dF = d; generalize p.x = x1; generalize p.y = y1; generalize q.x = x2; generalize q.y = y2
    grobner
  · have := fz_ne hz hu
    intro h; apply this; rw [← h]
    clear hx hy hu hv hz z1 z2 this h
    generalize dF = d; generalize p.x = x1; generalize p.y = y1; generalize q.x = x2; generalize q.y = y2
    grobner
  · clear hy hu hv hz z1 z2
    generalize (p.add q).x = X3 at *
    generalize dF = d at *; generalize p.x = x1 at *; generalize p.y = y1 at *; generalize q.x = x2 at *; generalize q.y = y2 at *
    grobner
  · clear hx hu hv hz z1 z2
    generalize (p.add q).y = Y3 at *
    generalize dF = d at *; generalize p.x = x1 at *; generalize p.y = y1 at *; generalize q.x = x2 at *; generalize q.y = y2 at *
    grobner
/-- A point and itself, with fewer products. -/
theorem Rep.twice {X Y Z T : F} {p : Pt} (h1 : Rep X Y Z T p) :
    Rep (((X + Y) * (X + Y) - (X * X + Y * Y)) * (Y * Y - X * X - Z * Z - Z * Z))
      ((Y * Y - X * X) * -(X * X + Y * Y))
      ((Y * Y - X * X - Z * Z - Z * Z) * (Y * Y - X * X))
      (((X + Y) * (X + Y) - (X * X + Y * Y)) * -(X * X + Y * Y)) (p.add p) := by
  obtain ⟨z1, rfl, rfl, rfl⟩ := h1
  have hx : (p.add p).x * _ = _ := addX_eq p.on p.on
  have hy : (p.add p).y * _ = _ := addY_eq p.on p.on
  have hu := plus_ne p.on p.on
  have hv := minus_ne p.on p.on
  have hz := fz_ne z1 z1
  have e := p.on
  unfold OnC at e
  refine Rep.mk' (q := p) ?_ ?_ ?_ ?_
  · have := fz_ne hz hv
    intro h; apply this
    clear hx hy hu hv hz z1 this
    generalize dF = d at *; generalize p.x = x1 at *; generalize p.y = y1 at *
    grobner
  · have := fz_ne hz hu
    intro h; apply this
    clear hx hy hu hv hz z1 this
    generalize dF = d at *; generalize p.x = x1 at *; generalize p.y = y1 at *
    grobner
  · clear hy hu hv hz z1
    generalize (p.add p).x = X3 at *
    generalize dF = d at *; generalize p.x = x1 at *; generalize p.y = y1 at *
    grobner
  · clear hx hu hv hz z1
    generalize (p.add p).y = Y3 at *
    generalize dF = d at *; generalize p.x = x1 at *; generalize p.y = y1 at *
    grobner
theorem Rep.neg {X Y Z T : F} {p : Pt} (h1 : Rep X Y Z T p) : Rep (-X) Y Z (-T) p.neg := by
  obtain ⟨z1, rfl, rfl, rfl⟩ := h1
  refine ⟨z1, ?_, rfl, ?_⟩
  · show _ = -p.x * Z
    generalize p.x = x; clear z1; grobner
  · show _ = -p.x * p.y * Z
    generalize p.x = x; generalize p.y = y; clear z1; grobner
theorem Rep.same {X1 Y1 Z1 T1 X2 Y2 Z2 T2 : F} {p q : Pt} (h1 : Rep X1 Y1 Z1 T1 p) (h2 : Rep X2 Y2 Z2 T2 q) : (X1 * Z2 = X2 * Z1 ∧ Y1 * Z2 = Y2 * Z1) ↔ p = q := by
  obtain ⟨z1, rfl, rfl, rfl⟩ := h1
  obtain ⟨z2, rfl, rfl, rfl⟩ := h2
  constructor
  · rintro ⟨h1, h2⟩
    apply Pt.ext'
    · apply fcan (fz_ne z1 z2)
      generalize p.x = x1 at *; generalize q.x = x2 at *; clear z1 z2 h2; grobner
    · apply fcan (fz_ne z1 z2)
      generalize p.y = x1 at *; generalize q.y = x2 at *; clear z1 z2 h1; grobner
  · rintro rfl
    constructor
    · generalize p.x = x1; clear z1 z2; grobner
    · generalize p.y = x1; clear z1 z2; grobner
theorem Rep.over {X Y Z T : F} {p : Pt} (h1 : Rep X Y Z T p) : X * fi Z = p.x ∧ Y * fi Z = p.y := by
  obtain ⟨z1, rfl, rfl, rfl⟩ := h1
  have h := fi_mul z1
  generalize fi Z = c at *
  constructor
  · generalize p.x = x; clear z1; grobner
  · generalize p.y = x; clear z1; grobner
end Go.Proofs.YtkfdclnaaphdgaaDoor
