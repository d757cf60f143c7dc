/-
The curve has no point of order two; the complete law of addition (one formula for every pair of points).
The reference of layer 4: sums of digits of any size, carried.
The reference of layer 4: a number that is less than twice the modulus, made less than it; what the modulus is more than a number.
The reference of layer 4: a field's block, its making; what the modulus is more than a number.
The reference of layer 4: what the modulus is more than a number.
The reference of layer 4 in numbers: a product as sums of digits, and what is above 2^256 folded by a table until nothing is.
The reference of layer 4: products in a field.
The reference of layer 4: sums, differences, inverses in a field.
The reference of layer 4: inverses in a field.
A region that draws its order and ends in no common operation: each operation once, in whatever order; then the walk behind it.
-/
import Derived.Test.YtflkhlhpifmocaaDoorMg00
import Derived.Test.YtflkhlhpifmocaaDoorMg01
namespace Go.Proofs.YtflkhlhpifmocaaDoor.Ec
open Go

/-- powers -/
def pw (x : FP) : Nat → FP
  | 0 => 1
  | n + 1 => pw x n * x
theorem pw_add (x : FP) (m : Nat) : ∀ n, pw x (m + n) = pw x m * pw x n
  | 0 => by show pw x m = pw x m * 1; grobner
  | n + 1 => by
    show pw x (m + n) * x = pw x m * (pw x n * x)
    rw [pw_add x m n]; grobner
theorem pw_c (z : Nat) : ∀ n, c (z ^ n) = pw (c z) n
  | 0 => rfl
  | n + 1 => by rw [Nat.pow_succ, c_mul, pw_c z n]; rfl
theorem c_val2 (a : FP) : c a.val = a := Fin.ext (Nat.mod_eq_of_lt a.isLt)
theorem pw_p (x : FP) (hx : x ≠ 0) : pw x pp = x := by
  have h0 : x.val % primeP ≠ 0 := fun h => hx (by
    have h2 : x.val % pp = 0 := h
    rw [Nat.mod_eq_of_lt x.isLt] at h2
    exact Fin.ext h2)
  have hf := fermatP x.val h0
  have h1 : c (x.val ^ (pp - 1)) = 1 := Fin.ext hf
  rw [pw_c, c_val2] at h1
  have e : pp = (pp - 1) + 1 := by decide +kernel
  rw [e]
  show pw x (pp - 1) * x = x
  rw [h1]; grobner
/-- the curve's b, mirrored -/
def nb : Nat := 74733725485204106633371317169360305120971702399296588640698374994827630452660
theorem nb_eq : c nb = 0 - cB := by unfold nb cB; decide +kernel
def sqX (u0 u1 u2 : Nat) (k : Nat → Nat → Nat → Bool) : Bool :=
  force ((u0 * u0 + nb * (2 * (u1 * u2))) % pp) fun v0 => force ((2 * (u0 * u1) + 3 * (2 * (u1 * u2)) + nb * (u2 * u2)) % pp) fun v1 => force ((2 * (u0 * u2) + u1 * u1 + 3 * (u2 * u2)) % pp) fun v2 => k v0 v1 v2
def byX (u0 u1 u2 : Nat) (k : Nat → Nat → Nat → Bool) : Bool :=
  force (nb * u2 % pp) fun v0 => force ((u0 + 3 * u2) % pp) fun v1 => k v0 v1 u1
def A0 : Nat := 66434390973925144466073271287821796038003695194169110494110089305650096453661
def A1 : Nat := 12402202686218762177567235911775779164004716598278868847786114277539554646092
def A2 : Nat := 24678849118215552148312087830792888746041224110560601850711771001608500700145
def runX : List Bool → Nat → Nat → Nat → Bool
  | [], u0, u1, u2 => u0 == A0 && u1 == A1 && u2 == A2
  | b :: bs, u0, u1, u2 => sqX u0 u1 u2 fun v0 v1 v2 => if b then byX v0 v1 v2 (runX bs) else runX bs v0 v1 v2
theorem runX_sound (x : FP) (hx : x * x * x = 3 * x - cB) : ∀ (bs : List Bool) (n u0 u1 u2 : Nat), pw x n = c u0 + c u1 * x + c u2 * (x * x) → runX bs u0 u1 u2 = true → pw x (valB bs n) = c A0 + c A1 * x + c A2 * (x * x)
  | [], n, u0, u1, u2, hu, h => by
    simp only [runX, Bool.and_eq_true, beq_iff_eq] at h
    obtain ⟨⟨h1, h2⟩, h3⟩ := h
    rw [← h1, ← h2, ← h3]
    exact hu
  | b :: bs, n, u0, u1, u2, hu, h => by
    unfold runX sqX at h
    simp only [force_eq] at h
    have h0 : c ((u0 * u0 + nb * (2 * (u1 * u2))) % pp) = c u0 * c u0 - cB * (2 * (c u1 * c u2)) := by
      rw [c_mod, c_add, c_mul, c_mul, c_mul, c_mul, nb_eq, show c 2 = 2 from rfl]; clear h hu hx; grobner
    have h1 : c ((2 * (u0 * u1) + 3 * (2 * (u1 * u2)) + nb * (u2 * u2)) % pp) = 2 * (c u0 * c u1) + 3 * (2 * (c u1 * c u2)) - cB * (c u2 * c u2) := by
      rw [c_mod, c_add, c_add, c_mul, c_mul, c_mul, c_mul, c_mul, c_mul, c_mul, nb_eq, show c 2 = 2 from rfl, show c 3 = 3 from rfl]; clear h hu hx h0; grobner
    have h2 : c ((2 * (u0 * u2) + u1 * u1 + 3 * (u2 * u2)) % pp) = 2 * (c u0 * c u2) + c u1 * c u1 + 3 * (c u2 * c u2) := by
      rw [c_mod, c_add, c_add, c_mul, c_mul, c_mul, c_mul, c_mul, show c 2 = 2 from rfl, show c 3 = 3 from rfl]
    generalize (u0 * u0 + nb * (2 * (u1 * u2))) % pp = v0 at *
    generalize (2 * (u0 * u1) + 3 * (2 * (u1 * u2)) + nb * (u2 * u2)) % pp = v1 at *
    generalize (2 * (u0 * u2) + u1 * u1 + 3 * (u2 * u2)) % pp = v2 at *
    have hs : pw x (2 * n) = c v0 + c v1 * x + c v2 * (x * x) := by
      rw [Nat.two_mul, pw_add, hu, h0, h1, h2]
      refine lin2 (2 * (c u1 * c u2) + c u2 * c u2 * x) 0 hx hx ?_
      clear h hu hx h0 h1 h2
      grobner
    cases b with
    | false => exact runX_sound x hx bs (2 * n) v0 v1 v2 hs (by simpa using h)
    | true =>
      simp only [if_true] at h
      unfold byX at h
      simp only [force_eq] at h
      have g0 : c (nb * v2 % pp) = 0 - cB * c v2 := by rw [c_mod, c_mul, nb_eq]; clear h hu hx h0 h1 h2 hs; grobner
      have g1 : c ((v0 + 3 * v2) % pp) = c v0 + 3 * c v2 := by rw [c_mod, c_add, c_mul]; rfl
      generalize nb * v2 % pp = w0 at *
      generalize (v0 + 3 * v2) % pp = w1 at *
      refine runX_sound x hx bs (2 * n + 1) w0 w1 v1 ?_ h
      show pw x (2 * n) * x = _
      rw [hs, g0, g1]
      refine lin2 (c v2) 0 hx hx ?_
      clear h hu hx h0 h1 h2 hs g0 g1
      grobner
theorem runX_p : runX (bitsN 256 pp) 1 0 0 = true := by decide +kernel
theorem valX_p : valB (bitsN 256 pp) 0 = pp := by decide +kernel
/-- five coefficients: the two polynomials have no root in common -/
theorem no_common {x b g0 g1 g2 s0 s1 t0 t1 t2 : FP} (h4 : s1 + t2 * g2 = 0) (h3 : s0 + t2 * g1 + t1 * g2 = 0) (h2 : t2 * g0 + t1 * g1 + t0 * g2 - 3 * s1 = 0) (h1 : s1 * b - 3 * s0 + t1 * g0 + t0 * g1 = 0) (h0 : s0 * b + t0 * g0 = 1)
    (hF : x * x * x - 3 * x + b = 0) (hG : g0 + g1 * x + g2 * (x * x) = 0) : False := by
  have e : (s1 + t2 * g2) * (x * x * x * x) + (s0 + t2 * g1 + t1 * g2) * (x * x * x) + (t2 * g0 + t1 * g1 + t0 * g2 - 3 * s1) * (x * x) + (s1 * b - 3 * s0 + t1 * g0 + t0 * g1) * x + (s0 * b + t0 * g0)
      = (s1 * x + s0) * (x * x * x - 3 * x + b) + (t2 * (x * x) + t1 * x + t0) * (g0 + g1 * x + g2 * (x * x)) := by clear h0 h1 h2 h3 h4 hF hG; grobner
  rw [h0, h1, h2, h3, h4, hF, hG] at e
  have e1 : (1 : FP) = 0 := by clear h0 h1 h2 h3 h4 hF hG; grobner
  exact absurd e1 (by decide)
/-- no root: y is never 0 -/
theorem no_root (x : FP) : x * x * x + cA * x + cB ≠ 0 := by
  intro h
  have hF : x * x * x - 3 * x + cB = 0 := by rw [← h]; unfold cA; clear h; grobner
  have hx : x * x * x = 3 * x - cB := by clear h; grobner
  have hx0 : x ≠ 0 := by
    rintro rfl
    have hb : cB = 0 := by rw [← hF]; clear h hF hx; grobner
    exact absurd hb (by unfold cB; decide +kernel)
  have hp := runX_sound x hx (bitsN 256 pp) 0 1 0 0 (by show (1 : FP) = c 1 + c 0 * x + c 0 * (x * x); rw [show c 1 = 1 from rfl, show c 0 = 0 from rfl]; clear h hF hx; grobner) runX_p
  rw [valX_p, pw_p x hx0] at hp
  have hG : c A0 + (c A1 - 1) * x + c A2 * (x * x) = 0 := by
    have e : c A0 + (c A1 - 1) * x + c A2 * (x * x) = (c A0 + c A1 * x + c A2 * (x * x)) - x := by clear h hF hx hp; grobner
    rw [e, ← hp]; clear h hF hx hp e; grobner
  clear h hx hx0 hp
  exact no_common (s0 := c 107286402702237026811154678719514266289498743974321057492273529440068429825344) (s1 := c 6389611969556882025875921584714237703390037729321797349080302270353162149340) (t0 := c 76626890310466861426869089647039036757962535851890885406097439786770458211455) (t1 := c 74462945259064871768191128030512052509059297803194871526163573358218695456204) (t2 := c 34768139465301476436978405170953382516735956999154666452188405812258086013549) (by decide +kernel) (by decide +kernel) (by decide +kernel) (by unfold cB; decide +kernel) (by unfold cB; decide +kernel) hF hG
theorem ne_y {x y : FP} (h : OnP (some (x, y))) : y ≠ 0 := by
  rintro rfl
  have h2 : x * x * x + cA * x + cB = 0 := by
    have h3 : (0 : FP) * 0 = x * x * x + cA * x + cB := h
    rw [← h3]; clear h h3; grobner
  exact no_root x h2

/- the complete law, of plain points -/
def cS (x1 y1 x2 y2 : FP) : FP := x1 * y2 + y1 * x2
def cD (x1 x2 b : FP) : FP := 3 * (x1 + x2 - b)
def cE (x1 x2 b : FP) : FP := 3 * (b * (x1 + x2) - (3 + x1 * x2))
def cG (x1 x2 : FP) : FP := 3 * (x1 * x2) - 3
def rX (x1 y1 x2 y2 b : FP) : FP := cS x1 y1 x2 y2 * (y1 * y2 + cD x1 x2 b) - (y1 + y2) * cE x1 x2 b
def rY (x1 y1 x2 y2 b : FP) : FP := (y1 * y2 + cD x1 x2 b) * (y1 * y2 - cD x1 x2 b) + cG x1 x2 * cE x1 x2 b
def rZ (x1 y1 x2 y2 b : FP) : FP := (y1 + y2) * (y1 * y2 - cD x1 x2 b) + cS x1 y1 x2 y2 * cG x1 x2
section
variable {x1 x2 y1 y2 b l m : FP}
theorem chord_rel (h2 : y2 = y1 + l * (x2 - x1)) (o1 : y1 * y1 = x1 * x1 * x1 - 3 * x1 + b) (o2 : y2 * y2 = x2 * x2 * x2 - 3 * x2 + b) (hx : x2 - x1 ≠ 0) :
    l * (2 * y1 + l * (x2 - x1)) = x1 * x1 + x1 * x2 + x2 * x2 - 3 := by
  refine fldP.cancel ?_ hx
  have e1 : (x2 - x1) * (l * (2 * y1 + l * (x2 - x1))) = y2 * y2 - y1 * y1 := by subst h2; clear o1 o2 hx; grobner
  rw [e1, o1, o2]
  clear e1 h2 o1 o2 hx
  grobner
theorem chord_z (h2 : y2 = y1 + l * (x2 - x1)) (hb : b = y1 * y1 - x1 * x1 * x1 + 3 * x1) (hr : l * (2 * y1 + l * (x2 - x1)) = x1 * x1 + x1 * x2 + x2 * x2 - 3) (hm : m * (x2 - x1) = 0 - (y1 + y2)) :
    rZ x1 y1 x2 y2 b = (x2 - x1) * (x2 - x1) * (x2 - x1) * (m * (x1 - (m * m - x1 - x2)) - y1) := by
  have e : (x2 - x1) * (x2 - x1) * (x2 - x1) * (m * (x1 - (m * m - x1 - x2)) - y1) = (m * (x2 - x1)) * (x1 * ((x2 - x1) * (x2 - x1)) - ((m * (x2 - x1)) * (m * (x2 - x1)) - (x1 + x2) * ((x2 - x1) * (x2 - x1)))) - y1 * ((x2 - x1) * (x2 - x1) * (x2 - x1)) := by clear h2 hb hr hm; grobner
  rw [e, hm]
  clear e hm
  subst h2 hb
  refine lin2 (0 - l * (x1 * x1) + 2 * l * x1 * x2 - l * (x2 * x2) + 3 * x1 * y1 - 3 * x2 * y1) 0 hr hr ?_
  clear hr
  unfold rZ cS cD cG
  grobner
theorem chord_x (h2 : y2 = y1 + l * (x2 - x1)) (hb : b = y1 * y1 - x1 * x1 * x1 + 3 * x1) (hr : l * (2 * y1 + l * (x2 - x1)) = x1 * x1 + x1 * x2 + x2 * x2 - 3) :
    rX x1 y1 x2 y2 b = (l * l - x1 - x2) * rZ x1 y1 x2 y2 b := by
  subst h2 hb
  refine lin2 (l * l * x1 * y1 - l * l * x2 * y1 + 3 * l * (x1 * x1 * x1) - 3 * l * (x1 * x1) * x2 - 3 * l * x1 + 3 * l * x2 - 4 * l * (y1 * y1) - 3 * (x1 * x1) * y1 - 3 * x1 * x2 * y1 + 6 * y1) 0 hr hr ?_
  clear hr
  unfold rX rZ cS cD cG cE
  grobner
theorem chord_y (h2 : y2 = y1 + l * (x2 - x1)) (hb : b = y1 * y1 - x1 * x1 * x1 + 3 * x1) (hr : l * (2 * y1 + l * (x2 - x1)) = x1 * x1 + x1 * x2 + x2 * x2 - 3) :
    rY x1 y1 x2 y2 b = (l * (x1 - (l * l - x1 - x2)) - y1) * rZ x1 y1 x2 y2 b := by
  subst h2 hb
  refine lin2 (0 - l * l * l * x1 * y1 + l * l * l * x2 * y1 - 3 * (l * l) * (x1 * x1 * x1) + 3 * (l * l) * (x1 * x1) * x2 + 3 * (l * l) * x1 - 3 * (l * l) * x2 + 4 * (l * l) * (y1 * y1) + 3 * l * (x1 * x1) * y1 + 3 * l * x1 * x2 * y1 - 6 * l * y1 + 9 * (x1 * x1 * x1 * x1) - 18 * (x1 * x1) - 12 * x1 * (y1 * y1) + 9) 0 hr hr ?_
  clear hr
  unfold rY rZ cS cD cG cE
  grobner
theorem tan_z (hb : b = y1 * y1 - x1 * x1 * x1 + 3 * x1) : rZ x1 y1 x1 y1 b = 8 * (y1 * y1 * y1) := by
  subst hb
  unfold rZ cS cD cG
  grobner
theorem tan_x (hb : b = y1 * y1 - x1 * x1 * x1 + 3 * x1) (hr : l * (2 * y1) = 3 * (x1 * x1 - 1)) : rX x1 y1 x1 y1 b = (l * l - x1 - x1) * (8 * (y1 * y1 * y1)) := by
  subst hb
  refine lin2 (0 - 4 * l * (y1 * y1) - 6 * (x1 * x1) * y1 + 6 * y1) 0 hr hr ?_
  clear hr
  unfold rX cS cD cE
  grobner
theorem tan_y (hb : b = y1 * y1 - x1 * x1 * x1 + 3 * x1) (hr : l * (2 * y1) = 3 * (x1 * x1 - 1)) : rY x1 y1 x1 y1 b = (l * (x1 - (l * l - x1 - x1)) - y1) * (8 * (y1 * y1 * y1)) := by
  subst hb
  refine lin2 (4 * (l * l) * (y1 * y1) + 6 * l * (x1 * x1) * y1 - 6 * l * y1 + 9 * (x1 * x1 * x1 * x1) - 18 * (x1 * x1) - 12 * x1 * (y1 * y1) + 9) 0 hr hr ?_
  clear hr
  unfold rY cG cD cE
  grobner
theorem opp_z : rZ x1 y1 x1 (0 - y1) b = 0 := by unfold rZ cS; grobner
theorem opp_x : rX x1 y1 x1 (0 - y1) b = 0 := by unfold rX cS; grobner
theorem opp_y : rY x1 y1 x1 (0 - y1) b = rY x1 y1 x1 y1 b := by unfold rY; grobner
end
theorem b_of {x y : FP} (h : OnP (some (x, y))) : cB = y * y - x * x * x + 3 * x := by
  have h2 : y * y = x * x * x + cA * x + cB := h
  rw [h2]; unfold cA; clear h h2; grobner
theorem on3 {x y : FP} (h : OnP (some (x, y))) : y * y = x * x * x - 3 * x + cB := by
  have h2 : y * y = x * x * x + cA * x + cB := h
  rw [h2]; unfold cA; clear h h2; grobner
/-- a point as X/Z, Y/Z, the point at infinity as 0, Y, 0 -/
def RepC (X Y Z : FP) : Pnt → Prop
  | none => X = 0 ∧ Y ≠ 0 ∧ Z = 0
  | some (x, y) => Z ≠ 0 ∧ X = x * Z ∧ Y = y * Z
/-- the law of plain points -/
theorem plain_sum {x1 y1 x2 y2 : FP} (o1 : OnP (some (x1, y1))) (o2 : OnP (some (x2, y2))) :
    RepC (rX x1 y1 x2 y2 cB) (rY x1 y1 x2 y2 cB) (rZ x1 y1 x2 y2 cB) (plus (some (x1, y1)) (some (x2, y2))) := by
  have hb := b_of o1
  have n1 := ne_y o1
  by_cases hx : x1 = x2
  · subst hx
    have hsl : slope cA x1 y1 x1 y1 = (3 * (x1 * x1) + cA) * finv (2 * y1) := by simp [slope]
    have hi := fldP.finv_mul (fldP.dbl_ne n1)
    rw [cA_eq] at hsl
    have hl : slope cA x1 y1 x1 y1 * (2 * y1) = 3 * (x1 * x1 - 1) := by rw [hsl]; clear hb; grobner
    have h8 : 8 * (y1 * y1 * y1) ≠ 0 := fldP.mul_ne (by decide) (fldP.mul_ne (fldP.mul_ne n1 n1) n1)
    rcases sq_eq fldP ((on3 o1).trans (on3 o2).symm) with h | h
    · subst h
      have hc : ¬ (x1 = x1 ∧ y1 + y1 = 0) := fun h => n1 (dbl_none.1 h.2)
      have e : plus (some (x1, y1)) (some (x1, y1)) = some (thirdX (slope cA x1 y1 x1 y1) x1 x1, thirdY (slope cA x1 y1 x1 y1) x1 y1 x1) := if_neg hc
      rw [e]
      exact ⟨by rw [tan_z hb]; exact h8, by rw [tan_z hb]; exact tan_x hb hl, by rw [tan_z hb]; exact tan_y hb hl⟩
    · have h2 : y2 = 0 - y1 := by rw [h]; clear hb hi hl hsl o1 o2 h; grobner
      subst h2
      have e : plus (some (x1, y1)) (some (x1, 0 - y1)) = none := if_pos ⟨rfl, self_neg_add y1⟩
      rw [e]
      refine ⟨opp_x, ?_, opp_z⟩
      rw [opp_y, tan_y hb hl]
      have od : OnP (plus (some (x1, y1)) (some (x1, y1))) := plus_on o1 o1
      have hc : ¬ (x1 = x1 ∧ y1 + y1 = 0) := fun h => n1 (dbl_none.1 h.2)
      have e2 : plus (some (x1, y1)) (some (x1, y1)) = some (thirdX (slope cA x1 y1 x1 y1) x1 x1, thirdY (slope cA x1 y1 x1 y1) x1 y1 x1) := if_neg hc
      rw [e2] at od
      exact fldP.mul_ne (ne_y od) h8
  · have hd : x2 - x1 ≠ 0 := sub_ne (Ne.symm hx)
    have hc : ¬ (x1 = x2 ∧ y1 + y2 = 0) := fun h => hx h.1
    have e : plus (some (x1, y1)) (some (x2, y2)) = some (thirdX (slope cA x1 y1 x2 y2) x1 x2, thirdY (slope cA x1 y1 x2 y2) x1 y1 x2) := if_neg hc
    rw [e]
    have hi := fldP.finv_mul hd
    have hsl : slope cA x1 y1 x2 y2 = (y2 - y1) * finv (x2 - x1) := by simp [slope, hx]
    have hl : y2 = y1 + slope cA x1 y1 x2 y2 * (x2 - x1) := by rw [hsl]; clear hb o1 o2; grobner
    have on2 := on_neg o2
    have hc2 : ¬ (x1 = x2 ∧ y1 + (0 - y2) = 0) := fun h => hx h.1
    have e2 : plus (some (x1, y1)) (some (x2, 0 - y2)) = some (thirdX (slope cA x1 y1 x2 (0 - y2)) x1 x2, thirdY (slope cA x1 y1 x2 (0 - y2)) x1 y1 x2) := if_neg hc2
    have od : OnP (plus (some (x1, y1)) (some (x2, 0 - y2))) := plus_on o1 on2
    rw [e2] at od
    have hy := ne_y od
    have hsm : slope cA x1 y1 x2 (0 - y2) = (0 - y2 - y1) * finv (x2 - x1) := by simp [slope, hx]
    have hm : slope cA x1 y1 x2 (0 - y2) * (x2 - x1) = 0 - (y1 + y2) := by rw [hsm]; clear hb hl hsl o1 o2 od hsm hy; grobner
    have hr := chord_rel hl (on3 o1) (on3 o2) hd
    generalize slope cA x1 y1 x2 y2 = l at *
    generalize slope cA x1 y1 x2 (0 - y2) = m at *
    have hz := chord_z hl hb hr hm
    refine ⟨?_, chord_x hl hb hr, chord_y hl hb hr⟩
    rw [hz]
    exact fldP.mul_ne (fldP.mul_ne (fldP.mul_ne hd hd) hd) hy
theorem RepC.scale {X Y Z : FP} {P : Pnt} (h : RepC X Y Z P) {k X' Y' Z' : FP} (hk : k ≠ 0) (hX : X' = k * X) (hY : Y' = k * Y) (hZ : Z' = k * Z) : RepC X' Y' Z' P := by
  subst hX hY hZ
  match P with
  | none =>
    obtain ⟨h1, h2, h3⟩ := h
    refine ⟨?_, fldP.mul_ne hk h2, ?_⟩
    · rw [h1]; clear h1 h2 h3 hk; grobner
    · rw [h3]; clear h1 h2 h3 hk; grobner
  | some (x, y) =>
    obtain ⟨h1, h2, h3⟩ := h
    refine ⟨fldP.mul_ne hk h1, ?_, ?_⟩
    · rw [h2]; clear h1 h2 h3 hk; grobner
    · rw [h3]; clear h1 h2 h3 hk; grobner
theorem RepC.y_ne {X Y Z : FP} {P : Pnt} (h : RepC X Y Z P) (hP : OnP P) : Y ≠ 0 := by
  match P with
  | none => exact h.2.1
  | some (x, y) => rw [h.2.2]; exact fldP.mul_ne (ne_y hP) h.1
/-- the law, of what stands for points -/
theorem complete {X1 Y1 Z1 X2 Y2 Z2 xx yy zz xy yz xz z3 d lo hi e g : FP} {P Q : Pnt} (hP : RepC X1 Y1 Z1 P) (hQ : RepC X2 Y2 Z2 Q) (oP : OnP P) (oQ : OnP Q)
    (hxx : xx = X1 * X2) (hyy : yy = Y1 * Y2) (hzz : zz = Z1 * Z2) (hxy : xy = (X1 + Y1) * (X2 + Y2) - (xx + yy)) (hyz : yz = (Y1 + Z1) * (Y2 + Z2) - (yy + zz)) (hxz : xz = (X1 + Z1) * (X2 + Z2) - (xx + zz))
    (hz3 : z3 = 3 * zz) (hd : d = 3 * (xz - cB * zz)) (hlo : lo = yy - d) (hhi : hi = yy + d) (he : e = 3 * (cB * xz - (z3 + xx))) (hg : g = 3 * xx - z3) :
    RepC (xy * hi - yz * e) (hi * lo + g * e) (yz * lo + xy * g) (plus P Q) := by
  have nP := hP.y_ne oP
  have nQ := hQ.y_ne oQ
  match P, Q with
  | none, Q =>
    obtain ⟨p1, p2, p3⟩ := hP
    refine hQ.scale (k := Y1 * Y1 * Y2) (fldP.mul_ne (fldP.mul_ne nP nP) nQ) ?_ ?_ ?_
    · subst hg he hhi hlo hd hz3 hxz hyz hxy hzz hyy hxx p1 p3; clear hQ oP oQ p2 nP nQ; grobner
    · subst hg he hhi hlo hd hz3 hxz hyz hxy hzz hyy hxx p1 p3; clear hQ oP oQ p2 nP nQ; grobner
    · subst hg he hhi hlo hd hz3 hxz hyz hxy hzz hyy hxx p1 p3; clear hQ oP oQ p2 nP nQ; grobner
  | some (x1, y1), none =>
    obtain ⟨p1, p2, p3⟩ := hQ
    refine hP.scale (k := Y1 * Y2 * Y2) (fldP.mul_ne (fldP.mul_ne nP nQ) nQ) ?_ ?_ ?_
    · subst hg he hhi hlo hd hz3 hxz hyz hxy hzz hyy hxx p1 p3; clear hP oP oQ p2 nP nQ; grobner
    · subst hg he hhi hlo hd hz3 hxz hyz hxy hzz hyy hxx p1 p3; clear hP oP oQ p2 nP nQ; grobner
    · subst hg he hhi hlo hd hz3 hxz hyz hxy hzz hyy hxx p1 p3; clear hP oP oQ p2 nP nQ; grobner
  | some (x1, y1), some (x2, y2) =>
    have key := plain_sum oP oQ
    obtain ⟨p1, rfl, rfl⟩ := hP
    obtain ⟨q1, rfl, rfl⟩ := hQ
    have hk := fldP.mul_ne p1 q1
    refine key.scale (k := (Z1 * Z2) * (Z1 * Z2)) (fldP.mul_ne hk hk) ?_ ?_ ?_
    · subst hg he hhi hlo hd hz3 hxz hyz hxy hzz hyy hxx; unfold rX cS cD cE; clear key oP oQ p1 q1 nP nQ hk; generalize cB = b; grobner
    · subst hg he hhi hlo hd hz3 hxz hyz hxy hzz hyy hxx; unfold rY cG cD cE; clear key oP oQ p1 q1 nP nQ hk; generalize cB = b; grobner
    · subst hg he hhi hlo hd hz3 hxz hyz hxy hzz hyy hxx; unfold rZ cS cG cD; clear key oP oQ p1 q1 nP nQ hk; generalize cB = b; grobner
end Go.Proofs.YtflkhlhpifmocaaDoor.Ec
namespace Go.Proofs.YtflkhlhpifmocaaDoor
open Go.RowKit

/-- digits of any size -/
def valF (f : Nat → Nat) : Nat → Nat
  | 0 => 0
  | n + 1 => valF f n + f n * 65536 ^ n
def tabF (n : Nat) (f : Nat → Nat) : Array Value := tab n fun j => .int .u64 ((f j : Nat) : Int)
def d33 (x : Nat) : Array Value := tab 33 (dgs .u64 65536 x)
theorem valF_split (f : Nat → Nat) (k : Nat) : ∀ d, ∃ r, valF f (k + d) = valF f k + 65536 ^ k * r
  | 0 => ⟨0, by simp⟩
  | d + 1 => by
    obtain ⟨r, h⟩ := valF_split f k d
    refine ⟨r + f (k + d) * 65536 ^ d, ?_⟩
    show valF f (k + d) + f (k + d) * 65536 ^ (k + d) = _
    rw [h, Nat.mul_add, Nat.pow_add, ← Nat.mul_assoc, ← Nat.mul_assoc, Nat.mul_comm (65536 ^ k) (f (k + d)), Nat.add_assoc]
def carF (f : Nat → Nat) (k : Nat) : Nat := valF f k / 65536 ^ k
theorem carF_zero (f : Nat → Nat) : carF f 0 = 0 := by simp [carF, valF]
theorem carF_step (f : Nat → Nat) (k : Nat) : (carF f k + f k) / 65536 = carF f (k + 1) := by
  unfold carF
  show _ = (valF f k + f k * 65536 ^ k) / 65536 ^ (k + 1)
  rw [Nat.pow_succ, ← Nat.div_div_eq_div_mul, Nat.add_mul_div_right _ _ (Nat.pow_pos (by decide))]
theorem carF_dg (f : Nat → Nat) (k n : Nat) (h : k < n) : (carF f k + f k) % 65536 = hxd (valF f n) k := by
  obtain ⟨r, hr⟩ := valF_split f (k + 1) (n - (k + 1))
  rw [show k + 1 + (n - (k + 1)) = n by omega] at hr
  have hp : 0 < 65536 ^ k := Nat.pow_pos (by decide)
  have e : valF f n = valF f k + 65536 ^ k * (f k + 65536 * r) := by
    rw [hr]
    show valF f k + f k * 65536 ^ k + _ = _
    rw [Nat.mul_add, Nat.pow_succ, Nat.mul_assoc, Nat.mul_comm (f k), Nat.add_assoc]
  show _ = valF f n / 65536 ^ k % 65536
  rw [e, Nat.add_mul_div_left _ _ hp, ← Nat.add_assoc, Nat.add_mul_mod_self_left]
  rfl
theorem carF_lt (f : Nat → Nat) (hf : ∀ j, f j < 1152921504606846976) : ∀ k, carF f k < 1152921504606846976
  | 0 => by rw [carF_zero]; decide
  | k + 1 => by
    have h1 := carF_lt f hf k
    have h2 := hf k
    rw [← carF_step]
    omega
/-- k digits are carried -/
def mixF (f : Nat → Nat) (k j : Nat) : Nat := if j < k then hxd (valF f 33) j else f j
theorem mixF_zero (f : Nat → Nat) : tabF 33 (mixF f 0) = tabF 33 f := tab_ext _ _ _ fun j _ => by simp [mixF]
theorem mixF_end (f : Nat → Nat) : tabF 33 (mixF f 33) = d33 (valF f 33) := tab_ext _ _ _ fun j hj => by simp [mixF, hj, dgs, hxd]
theorem mixF_set (f : Nat → Nat) (k : Nat) : (tabF 33 (mixF f k)).setIfInBounds k (.int .u64 ((hxd (valF f 33) k : Nat) : Int)) = tabF 33 (mixF f (k + 1)) := by
  unfold tabF
  rw [tab_set]
  refine tab_ext _ _ _ fun j _ => ?_
  unfold mixF
  by_cases h : j = k
  · subst h; simp
  · rw [if_neg h]
    by_cases h2 : j < k
    · rw [if_pos h2, if_pos (by omega)]
    · rw [if_neg h2, if_neg (by omega)]
theorem mixF_at (f : Nat → Nat) (k : Nat) : mixF f k k = f k := by simp [mixF]
theorem tabF_size (n : Nat) (f : Nat → Nat) : (tabF n f).size = n := tab_size _ _

set_option maxRecDepth 100000 in
set_option maxHeartbeats 1000000 in
theorem carry_any (f : Nat → Nat) (g : Nat) (w : World) (hG : Has w g 95 (tabF 33 f)) (hf : ∀ j, f j < 1152921504606846976) :
    Calls Tryd.prog 57 #[.pointer (some ⟨g, 0, none⟩)] w fun e w' => e = .returned (.tuple #[]) ∧ Has w' g 95 (d33 (valF f 33)) ∧ w.grownBy w' (some g) := by
  have HD := Lib.hid (fun k h => carF_dg f k 33 h)
  have HS := Lib.hid (fun k => carF_step f k)
  have HL := Lib.hid (carF_lt f hf)
  have HF := Lib.hid hf
  have HZ := Lib.hid (carF_zero f)
  clear hf
  have hO : w.grownBy w (some g) := only_drewN w 0 _
  go_enter Tryd.func57, Tryd.ntmps57
  go_wp2_with fail
  go_loopw [2, 3] (fun vc vi wr => ∃ k : Nat, k ≤ 33 ∧ vc = .int .u64 ((carF f k : Nat) : Int) ∧ vi = .int .i64 (k : Int) ∧ Has wr g 95 (tabF 33 (mixF f k)) ∧ w.grownBy wr (some g)) (fun _ vi _ => 33 - (intOf vi).toNat)
  case atStart => exact ⟨0, by omega, by rw [HZ.out]; rfl, rfl, by rw [mixF_zero]; exact hG, hO⟩
  case round =>
    obtain ⟨k, hk, rfl, rfl, h1, hO1⟩ := hrel
    clear hG hO
    by_cases hlt : k < 33
    · have dk : (k : Int) < 33 := by omega
      have c1 := h1.cellTab k hlt
      have f1 := h1.free k
      rw [mixF_at] at c1
      have l1 := HL.out k
      have l2 := HF.out k
      have e1 := HD.out k hlt
      have e2 := HS.out k
      generalize hc : carF f k = c at *
      generalize hfk : f k = b at *
      obtain ⟨x, hx⟩ : ∃ x, x = c + b := ⟨_, rfl⟩
      rw [← hx] at e1 e2
      have d1 : IntKind.u64.wrap ((c : Int) + (b : Int)) = (x : Int) := by rw [IntKind.wrap_u64, hx]; omega
      obtain ⟨r, hr⟩ : ∃ r, r = x % 65536 := ⟨_, rfl⟩
      obtain ⟨q, hq⟩ : ∃ q, q = x / 65536 := ⟨_, rfl⟩
      have d2 : (x : Int).tmod 65536 = (r : Int) := by rw [Int.tmod_eq_emod_of_nonneg (by omega), hr]; omega
      have d3 : (x : Int) % 65536 = (r : Int) := by rw [hr]; omega
      have d4 : (x : Int).tdiv 65536 = (q : Int) := by rw [Int.tdiv_eq_ediv_of_nonneg (by omega), hq]; omega
      have d5 : (x : Int) / 65536 = (q : Int) := by rw [hq]; omega
      have d6 : IntKind.u64.wrap (q : Int) = (q : Int) := by rw [IntKind.wrap_u64, hq]; omega
      rw [← hr] at e1
      rw [← hq] at e2
      have HE := Lib.hid (And.intro e1 e2)
      clear e1 e2 hr hq hx hfk hc l1 l2
      go_wp2_with fail
      go_roundw
      case rel =>
        refine ⟨k + 1, by omega, by rw [← HE.out.2], by go_num, ?_, only_trans hO1 (only_setCell _ _ _ _)⟩
        have h := h1.set k (.int .u64 ((r : Nat) : Int))
        rw [HE.out.1, mixF_set] at h
        rw [← HE.out.1] at h
        exact h
      case measure => simp [intOf]; omega
    · have hk33 : k = 33 := by omega
      have dk : ¬ (k : Int) < 33 := by omega
      rw [hk33, mixF_end] at h1
      have HG := Lib.hid (And.intro h1 hO1)
      clear h1 hO1 hk33 hlt hk
      go_wp2_with fail
      go_end0
      exact ⟨rfl, HG.out⟩
end Go.Proofs.YtflkhlhpifmocaaDoor
namespace Go.Proofs.YtflkhlhpifmocaaDoor
open Go.RowKit

theorem mix16_zero (D a : Nat) : tab 16 (mixT D a 0) = d16 a := tab_ext _ _ _ fun j _ => by simp [mixT, dgs, hxd]
theorem mix16_end (D a : Nat) : tab 16 (mixT D a 16) = d16 D := tab_ext _ _ _ fun j hj => by simp [mixT, dgs, hxd, hj]
theorem mix16_at {w : World} {g : Nat} {t : TypeId} {D a k : Nat} (h : Has w g t (tab 16 (mixT D a k))) (hk : k < 16) : w.cell? ⟨g, k, none⟩ = some (.int .u64 ((hxd a k : Nat) : Int)) := by
  rw [h.cellTab k hk]
  simp [mixT]
theorem mix16_set (D a k : Nat) : (tab 16 (mixT D a k)).setIfInBounds k (.int .u64 ((hxd D k : Nat) : Int)) = tab 16 (mixT D a (k + 1)) := by
  rw [tab_set]
  apply tab_ext
  intro j _
  by_cases h : j = k
  · subst h; simp [mixT]
  · simp only [mixT, if_neg h]
    by_cases h2 : j < k
    · rw [if_pos h2, if_pos (by omega)]
    · rw [if_neg h2, if_neg (by omega)]
theorem div_of_dig (a m k : Nat) (h : a / 65536 ^ (k + 1) = m / 65536 ^ (k + 1)) (hd : hxd a k = hxd m k) : a / 65536 ^ k = m / 65536 ^ k := by
  rw [div_stepB 65536 a k, div_stepB 65536 m k, h]
  unfold hxd at hd
  rw [hd]
attribute [local go_sem] zero16
set_option maxRecDepth 100000 in
set_option maxHeartbeats 2000000 in
theorem low_any (a m : Nat) (w : World) (ha : a < 2 * m) (ha16 : a < 65536 ^ 16) (hm16 : m < 65536 ^ 16) :
    Calls Tryd.prog 58 #[.agg (d16 a), .agg (d16 m)] w fun e w' => e = .returned (.agg (d16 (a % m))) ∧ Below w.heap.size w w' := by
  have hlt1 : a < m → d16 a = d16 (a % m) := fun h => by rw [Nat.mod_eq_of_lt h]
  have hm17 : m < 65536 ^ 17 := Nat.lt_of_lt_of_le hm16 (Nat.pow_le_pow_right (by decide) (by decide))
  have hlo := fun k (hk : k < 16) => take_lo a m k (by omega) hm17
  have hhi := take_hi a m
  obtain ⟨D, hDD⟩ : ∃ D, D = a + 65536 ^ 17 - m := ⟨_, rfl⟩
  have hres : m ≤ a → d16 D = d16 (a % m) := fun h => by
    have e : a % m = a - m := by rw [Nat.mod_eq_sub_mod h, Nat.mod_eq_of_lt (by omega)]
    rw [hDD, e]
    unfold d16
    refine dgs_congr ?_
    rw [show a + 65536 ^ 17 - m = (a - m) + 65536 ^ 16 * 65536 by omega, Nat.add_mul_mod_self_left]
  rw [← hDD] at hlo
  have HLO := Lib.hid hlo
  have HHI := Lib.hid hhi
  have HR := Lib.hid hres
  have HLT := Lib.hid hlt1
  have htop : a / 65536 ^ 16 = m / 65536 ^ 16 := by rw [Nat.div_eq_of_lt ha16, Nat.div_eq_of_lt hm16]
  have HTOP := Lib.hid htop
  clear hlo hhi hres hDD ha ha16 hm16 hm17 htop hlt1
  generalize a % m = y at *
  have n0 := d16_ne 0
  have h0 : Has (((w.alloc (.cells (d16 a) 37)).alloc (.cells (d16 m) 37)).alloc (.cells (d16 0) 37)) w.heap.size 37 (d16 a) := ((Has.new w _ _).alloc _).alloc _
  have h1 : Has (((w.alloc (.cells (d16 a) 37)).alloc (.cells (d16 m) 37)).alloc (.cells (d16 0) 37)) (w.heap.size + 1) 37 (d16 m) := (Has.new' (by simp)).alloc _
  have h2 : Has (((w.alloc (.cells (d16 a) 37)).alloc (.cells (d16 m) 37)).alloc (.cells (d16 0) 37)) (w.heap.size + 1 + 1) 37 (d16 0) := Has.new' (by simp)
  have hb : Below w.heap.size w (((w.alloc (.cells (d16 a) 37)).alloc (.cells (d16 m) 37)).alloc (.cells (d16 0) 37)) := (((Below.refl _ _).alloc (Nat.le_refl _) _).alloc (by simp) _).alloc (by simp <;> omega) _
  go_enter Tryd.func58, Tryd.ntmps58
  go_wp2_with fail
  go_loopw [5] (fun vi wr => ∃ k : Nat, k ≤ 16 ∧ vi = .int .i64 ((k : Int) - 1) ∧ Hid (a / 65536 ^ k = m / 65536 ^ k) ∧ Has wr w.heap.size 37 (d16 a) ∧ Has wr (w.heap.size + 1) 37 (d16 m) ∧ Has wr (w.heap.size + 1 + 1) 37 (d16 0) ∧ Below w.heap.size w wr) (fun vi _ => (intOf vi + 1).toNat)
  case atStart => exact ⟨16, by omega, rfl, HTOP, h0, h1, h2, hb⟩
  case round =>
    clear h0 h1 h2 hb HTOP
    obtain ⟨k, hk, rfl, HK, h0, h1, h2, hb⟩ := hrel
    by_cases hlt : 0 < k
    · obtain ⟨k, rfl⟩ : ∃ j, k = j + 1 := ⟨k - 1, by omega⟩
      have ek : ((k + 1 : Nat) : Int) - 1 = (k : Int) := by omega
      rw [ek]
      clear ek
      have c0 := d16_at h0 k (by omega)
      have c1 := d16_at h1 k (by omega)
      have dk : (k : Int) < 16 := by omega
      have dk0 : (0 : Int) ≤ (k : Int) := by omega
      go_wp2_with fail
      go_quiet (fail)
      replace h0 := h0.drewN nq
      replace h1 := h1.drewN nq
      replace h2 := h2.drewN nq
      replace hb := below_drewN hb nq
      clear c0 c1
      generalize hq : Go.World.drewN _ nq = wq at *
      clear hq
      by_cases hd : hxd a k < hxd m k
      · have hal : a < m := by
          have := less_dig 65536 a m k HK.out (by unfold hxd at hd; omega)
          have h2 : decide (dg 65536 a k < dg 65536 m k) = true := decide_eq_true hd
          rw [h2] at this
          exact of_decide_eq_true this
        have HE := Lib.hid (HLT.out hal)
        clear hal
        go_wp2_with (first | refine wpList_load_has 37 _ rfl _ rfl rfl 37 _ h0 _ Tryd.underlying37 rfl (info16 _) ?_ | refine wpList_store_row rfl 37 _ _ rfl (w.heap.size + 1 + 1) _ rfl rfl 37 _ h2 (info16 _) (by simp only [d16_size]) (tab_oneCell _ _ fun _ => rfl) ?_)
        exact bodyPost_ret (v := .agg (d16 a)) (results_cell_row rfl _ _ (w.heap.size + 1 + 1) 37 _ _ _ rfl (h2.setRow _) Tryd.underlying37 rfl (info16 _)) rfl ⟨by rw [HE.out], below_setRow hb (by omega) _⟩
      · by_cases hd2 : hxd m k < hxd a k
        · have hal : m ≤ a := by
            have := less_dig 65536 m a k HK.out.symm (by unfold hxd at hd2; omega)
            have h2 : decide (dg 65536 m k < dg 65536 a k) = true := decide_eq_true hd2
            rw [h2] at this
            exact Nat.le_of_lt (of_decide_eq_true this)
          have HGE := Lib.hid hal
          have c0 := d16_at h0 k (by omega)
          have c1 := d16_at h1 k (by omega)
          clear hal
          go_wp2_with fail
          go_quiet (fail)
          replace h0 := h0.drewN nq
          replace h1 := h1.drewN nq
          replace h2 := h2.drewN nq
          replace hb := below_drewN hb nq
          clear c0 c1
          generalize hq : Go.World.drewN _ nq = wq2 at *
          clear hq
          go_wp2_with fail
          clear HK hd hd2 dk dk0 hk hlt
          go_loopw [6, 7, 8] (fun vc vi _ wr => ∃ j : Nat, j ≤ 16 ∧ vi = .int .i64 (j : Int) ∧ vc = .int .u64 ((bor3 a m j : Nat) : Int) ∧ Has wr w.heap.size 37 (tab 16 (mixT D a j)) ∧ Has wr (w.heap.size + 1) 37 (d16 m) ∧ Has wr (w.heap.size + 1 + 1) 37 (d16 0) ∧ Below w.heap.size w wr) (fun _ vi _ _ => 16 - (intOf vi).toNat)
          case atStart => exact ⟨0, by omega, rfl, by rw [bor3, bor_zero]; rfl, by rw [mix16_zero]; exact h0, h1, h2, hb⟩
          case round =>
            clear h0 h1 h2 hb
            obtain ⟨j, hj, rfl, rfl, h0, h1, h2, hb⟩ := hrel
            by_cases hjt : j < 16
            · have dj : (j : Int) < 16 := by omega
              have c0 := mix16_at h0 hjt
              have c1 := d16_at h1 j hjt
              have l0 : ((hxd a j : Nat) : Int) < 65536 := by have := hxd_lt a j; omega
              have l1 : ((hxd m j : Nat) : Int) < 65536 := by have := hxd_lt m j; omega
              have l2 : ((bor3 a m j : Nat) : Int) ≤ 1 := by have := bor3_le a m j; omega
              have e1 := HLO.out j hjt
              have e2 := HHI.out j
              go_wp2_with fail
              go_quiet (fail)
              replace h0 := h0.drewN nq
              replace h1 := h1.drewN nq
              replace h2 := h2.drewN nq
              replace hb := below_drewN hb nq
              clear c0 c1
              generalize hq : Go.World.drewN _ nq = wq at *
              clear hq
              have f0 := h0.free j
              have c0 := mix16_at h0 hjt
              go_wp2_with fail
              go_roundw
              case rel => exact ⟨j + 1, by omega, by go_num, by rw [← e2], by rw [← mix16_set, ← e1]; exact h0.set j _, h1.far (by simp <;> omega) _, h2.far (by simp <;> omega) _, hb.setCell (by simp <;> omega) _⟩
              case measure => simp [intOf]; omega
            · have ej : j = 16 := by omega
              have dj : ¬ (j : Int) < 16 := by omega
              have h0' : Has wr w.heap.size 37 (d16 D) := by rw [ej, mix16_end] at h0; exact h0
              clear ej hj hjt h0 h1
              go_wp2_with (first | refine wpList_load_has 37 _ rfl _ rfl rfl 37 _ h0' _ Tryd.underlying37 rfl (info16 _) ?_ | refine wpList_store_row rfl 37 _ _ rfl (w.heap.size + 1 + 1) _ rfl rfl 37 _ h2 (info16 _) (by simp only [d16_size]) (tab_oneCell _ _ fun _ => rfl) ?_)
              exact bodyPost_ret (v := .agg (d16 D)) (results_cell_row rfl _ _ (w.heap.size + 1 + 1) 37 _ _ _ rfl (h2.setRow _) Tryd.underlying37 rfl (info16 _)) rfl ⟨by rw [HR.out HGE.out], below_setRow hb (by omega) _⟩
        · have hde : hxd a k = hxd m k := by omega
          have HK2 := Lib.hid (div_of_dig a m k HK.out hde)
          have c0 := d16_at h0 k (by omega)
          have c1 := d16_at h1 k (by omega)
          clear hde
          go_wp2_with fail
          go_quiet (fail)
          replace h0 := h0.drewN nq
          replace h1 := h1.drewN nq
          replace h2 := h2.drewN nq
          replace hb := below_drewN hb nq
          clear c0 c1
          generalize hq : Go.World.drewN _ nq = wq2 at *
          clear hq
          go_wp2_with fail
          go_roundw
          case rel => exact ⟨k, by omega, by go_num, HK2, h0, h1, h2, hb⟩
          case measure => simp [intOf] <;> omega
    · obtain rfl : k = 0 := by omega
      have HGE : Hid (m ≤ a) := Lib.hid (by have := HK.out; rw [Nat.pow_zero, Nat.div_one, Nat.div_one] at this; omega)
      clear HK hlt hk
      go_wp2_with fail
      clear n0
      go_loopw [6, 7, 8] (fun vc vi _ wr => ∃ j : Nat, j ≤ 16 ∧ vi = .int .i64 (j : Int) ∧ vc = .int .u64 ((bor3 a m j : Nat) : Int) ∧ Has wr w.heap.size 37 (tab 16 (mixT D a j)) ∧ Has wr (w.heap.size + 1) 37 (d16 m) ∧ Has wr (w.heap.size + 1 + 1) 37 (d16 0) ∧ Below w.heap.size w wr) (fun _ vi _ _ => 16 - (intOf vi).toNat)
      case atStart => exact ⟨0, by omega, rfl, by rw [bor3, bor_zero]; rfl, by rw [mix16_zero]; exact h0, h1, h2, hb⟩
      case round =>
        clear h0 h1 h2 hb
        obtain ⟨j, hj, rfl, rfl, h0, h1, h2, hb⟩ := hrel
        by_cases hjt : j < 16
        · have dj : (j : Int) < 16 := by omega
          have c0 := mix16_at h0 hjt
          have c1 := d16_at h1 j hjt
          have l0 : ((hxd a j : Nat) : Int) < 65536 := by have := hxd_lt a j; omega
          have l1 : ((hxd m j : Nat) : Int) < 65536 := by have := hxd_lt m j; omega
          have l2 : ((bor3 a m j : Nat) : Int) ≤ 1 := by have := bor3_le a m j; omega
          have e1 := HLO.out j hjt
          have e2 := HHI.out j
          go_wp2_with fail
          go_quiet (fail)
          replace h0 := h0.drewN nq
          replace h1 := h1.drewN nq
          replace h2 := h2.drewN nq
          replace hb := below_drewN hb nq
          clear c0 c1
          generalize hq : Go.World.drewN _ nq = wq at *
          clear hq
          have f0 := h0.free j
          have c0 := mix16_at h0 hjt
          go_wp2_with fail
          go_roundw
          case rel => exact ⟨j + 1, by omega, by go_num, by rw [← e2], by rw [← mix16_set, ← e1]; exact h0.set j _, h1.far (by simp <;> omega) _, h2.far (by simp <;> omega) _, hb.setCell (by simp <;> omega) _⟩
          case measure => simp [intOf]; omega
        · have ej : j = 16 := by omega
          have dj : ¬ (j : Int) < 16 := by omega
          have h0' : Has wr w.heap.size 37 (d16 D) := by rw [ej, mix16_end] at h0; exact h0
          clear ej hj hjt h0 h1
          go_wp2_with (first | refine wpList_load_has 37 _ rfl _ rfl rfl 37 _ h0' _ Tryd.underlying37 rfl (info16 _) ?_ | refine wpList_store_row rfl 37 _ _ rfl (w.heap.size + 1 + 1) _ rfl rfl 37 _ h2 (info16 _) (by simp only [d16_size]) (tab_oneCell _ _ fun _ => rfl) ?_)
          exact bodyPost_ret (v := .agg (d16 D)) (results_cell_row rfl _ _ (w.heap.size + 1 + 1) 37 _ _ _ rfl (h2.setRow _) Tryd.underlying37 rfl (info16 _)) rfl ⟨by rw [HR.out HGE.out], below_setRow hb (by omega) _⟩
end Go.Proofs.YtflkhlhpifmocaaDoor
namespace Go.Proofs.YtflkhlhpifmocaaDoor
open Go.RowKit

/-- 2^(256 + 16 k) modulo m -/
def rowN (m k : Nat) : Nat := 65536 ^ (16 + k) % m
/-- a field's cells: the modulus, and k of the rows -/
def fldP (m k j : Nat) : Nat := if j < 16 then hxd m j else if j < 16 + 16 * k then hxd (rowN m ((j - 16) / 16)) ((j - 16) % 16) else 0
def fldC (m k : Nat) : Array Value := tab 272 fun j => .int .u64 ((fldP m k j : Nat) : Int)
/-- block g holds the field of the modulus m -/
def IsField (w : World) (g m : Nat) : Prop := Has w g 61 (fldC m 16)
set_option maxRecDepth 100000 in
theorem buildFld (m : Nat) (W : World) : (Instr.build 61 #[(0, .agg (d16 m))]).run Tryd.prog W = .ok (.agg (fldC m 0)) W := by kernel_rfl
def hexL (x : Nat) : List Value := (List.range 16).map (dgs .u64 65536 x)
theorem hexL_arr (x : Nat) : (hexL x).toArray = d16 x := rfl
theorem hexL_len (x : Nat) : (hexL x).length = 16 := by simp [hexL]
theorem infoH (x : Nat) : (Tryd.prog.info? 37).map (·.size) = some (hexL x).length := by rw [hexL_len]; kernel_rfl
theorem fld_mod {w : World} {g m k : Nat} (h : Has w g 61 (fldC m k)) : w.rangeAt g 0 (hexL m) := by
  have := Has.range h 0 16 (by omega)
  have e : (List.range 16).map (fun j => Value.int .u64 ((fldP m k (0 + j) : Nat) : Int)) = hexL m := by
    unfold hexL
    apply List.map_congr_left
    intro j hj
    have : j < 16 := by simpa using hj
    simp [fldP, dgs, hxd, this]
  rw [e] at this
  exact this
theorem fld_mod_at {w : World} {g m k : Nat} (h : Has w g 61 (fldC m k)) (j : Nat) (hj : j < 16) : w.cell? ⟨g, j, none⟩ = some (.int .u64 ((hxd m j : Nat) : Int)) := by
  have := h.cellTab j (show j < 272 by omega)
  simp only [fldP, if_pos hj] at this
  exact this
theorem fld_row_at {w : World} {g m : Nat} (h : IsField w g m) (k i : Nat) (hk : k < 16) (hi : i < 16) : w.cell? ⟨g, 16 + 16 * k + i, none⟩ = some (.int .u64 ((hxd (rowN m k) i : Nat) : Int)) := by
  have := Has.cellTab h (16 + 16 * k + i) (show 16 + 16 * k + i < 272 by omega)
  have h1 : ¬ 16 + 16 * k + i < 16 := by omega
  have h2 : 16 + 16 * k + i < 16 + 16 * 16 := by omega
  have h3 : (16 + 16 * k + i - 16) / 16 = k := by omega
  have h4 : (16 + 16 * k + i - 16) % 16 = i := by omega
  simp only [fldP, if_neg h1, if_pos h2, h3, h4] at this
  exact this
/-- a row is written -/
theorem fld_row_set (m k : Nat) (hk : k < 16) : (tab 272 fun j => if 16 + 16 * k ≤ j ∧ j < 16 + 16 * k + 16 then dgs .u64 65536 (rowN m k) (j - (16 + 16 * k)) else .int .u64 ((fldP m k j : Nat) : Int)) = fldC m (k + 1) := tab_ext _ _ _ fun j _ => by
  unfold fldP dgs
  by_cases h : 16 + 16 * k ≤ j ∧ j < 16 + 16 * k + 16
  · have h1 : ¬ j < 16 := by omega
    have h2 : j < 16 + 16 * (k + 1) := by omega
    have h3 : (j - 16) / 16 = k := by omega
    have h4 : (j - 16) % 16 = j - (16 + 16 * k) := by omega
    rw [if_pos h, if_neg h1, if_pos h2, h3, h4]
    rfl
  · rw [if_neg h]
    by_cases h1 : j < 16
    · rw [if_pos h1, if_pos h1]
    · by_cases h2 : j < 16 + 16 * k
      · rw [if_neg h1, if_neg h1, if_pos h2, if_pos (by omega)]
      · rw [if_neg h1, if_neg h1, if_neg h2, if_neg (by omega)]
section
variable {w : World} {ops : Array Oper} {rest : List Oper} {op : Oper} {a : Act} {Q : Exit → Act → World → Prop}
/-- a number that lies in the middle of a block -/
theorem wp_load_hex {K : Act → World → Prop} (p : Operand) (ho : op.op = .load 37 p) (b o : Nat) (hp : a.eval p = .pointer (some ⟨b, o, none⟩)) (x : Nat) (hc : w.rangeAt b o (hexL x))
    (h : K (a.put op.dst (.agg (d16 x))) w) : op.wp Tryd.prog a w K Q := by
  rw [← hexL_arr] at h
  exact wp_load_mid 37 p ho b o hp (hexL x) _ hc Tryd.underlying37 rfl (infoH x) h
theorem wpList_load_hex (hgd : op.guard = none) (p : Operand) (ho : op.op = .load 37 p) (b o : Nat) (hp : a.eval p = .pointer (some ⟨b, o, none⟩)) (x : Nat) (hc : w.rangeAt b o (hexL x))
    (h : wpList Tryd.prog ops Q rest (a.put op.dst (.agg (d16 x))) w) : wpList Tryd.prog ops Q (op :: rest) a w :=
  wpList_plain hgd fun _ hK => wp_load_hex p ho b o hp x hc (hK _ _ h)
theorem wpQ_load_hex {C : World → Prop} {L : Act → Prop} (hw : Region.wanted op (yielded ops a.tmps) = true) (p : Operand) (ho : op.op = .load 37 p) (b o : Nat) (hp : a.eval p = .pointer (some ⟨b, o, none⟩)) (x : Nat) (hc : ∀ w', C w' → w'.rangeAt b o (hexL x))
    (h : wpQuiet Tryd.prog ops C L rest (a.put op.dst (.agg (d16 x)))) : wpQuiet Tryd.prog ops C L (op :: rest) a :=
  wpQ_load 37 p ho hw _ hp (.agg (d16 x)) (fun w' hC => by rw [← hexL_arr]; exact run_loadAt_mid w' b o 37 (hexL x) _ (hc w' hC) Tryd.underlying37 rfl (infoH x)) h
/-- a number goes into the middle of a block that is known whole: the world behind it, named -/
theorem wpList_store_hex (hgd : op.guard = none) (x y : Operand) (ho : op.op = .store 37 x y)
    (g off : Nat) (hx : a.eval x = .pointer (some ⟨g, off, none⟩)) (v : Nat) (hy : a.eval y = .agg (d16 v))
    (N : Nat) (f : Nat → Value) (t : TypeId) (hg : Has w g t (tab N f)) (hfit : off + 16 ≤ N) (cs : Array Value) (hcs : (tab N fun j => if off ≤ j ∧ j < off + 16 then dgs .u64 65536 v (j - off) else f j) = cs)
    (h : wpList Tryd.prog ops Q rest (a.put op.dst undef) (w.setRow g cs)) : wpList Tryd.prog ops Q (op :: rest) a w := by
  refine wpList_plain hgd fun K hK => ?_
  have hl : (hexL v).length = 16 := hexL_len v
  have hrun := run_storeCells_at (P := Tryd.prog) g off t (hexL v) 0 (tab N f) w hg (by rw [hl, tab_size]; omega) (fun u hu => by obtain ⟨j, _, rfl⟩ := List.mem_map.1 hu; rfl)
  have e := tab_splice N f (dgs .u64 65536 v) off 16 hfit
  rw [hl, Nat.add_zero, List.append_assoc, show hexL v = (List.range 16).map (dgs .u64 65536 v) from rfl, e, hcs] at hrun
  have hi := info16 v
  rw [d16_size] at hi
  have hs : (storeVar 37 ⟨g, off, none⟩ (.agg (d16 v))).run Tryd.prog w = .ok () (w.setRow g cs) := by
    cases hq : Tryd.prog.info? 37 with
    | none => simp [hq] at hi
    | some i =>
      have hs : i.size = 16 := by simpa [hq] using hi
      have hv : (d16 v).toList = (List.range 16).map (dgs .u64 65536 v) := tab_toList _ _
      simp [storeVar, sizeOf, typeInfo, hq, Value.cells, hs, d16_size, hv, hrun]
  unfold Oper.wp execOp
  simp only [ho, hx, hy, Instr.storeAt, Instr.sureAddr, Sem.run_bind, Sem.run_pure, Result.andThen_ok, hs]
  exact hK _ _ h
/-- a value built of parts -/
theorem wpList_parts {P : Program} (hgd : op.guard = none) (t : TypeId) (ps : Array (Nat × Operand)) (ho : op.op = .build t ps) (vs : Array (Nat × Value)) (hvs : (ps.map fun p => (p.1, a.eval p.2)) = vs) (v : Value)
    (hrun : ∀ w, (Instr.build t vs).run P w = .ok v w) (h : wpList P ops Q rest (a.put op.dst v) w) : wpList P ops Q (op :: rest) a w :=
  wpList_plain hgd fun K hK => by
    have e := hrun w
    rw [← hvs] at e
    unfold Oper.wp execOp
    simp only [ho]
    rw [Sem.run_bind, e]
    exact hK _ _ h
end
theorem addrRow (g k : Nat) (hk : k < 16) (w : World) : (Instr.indexAt 59 (.pointer (some ⟨g, 16, none⟩)) (.int .i64 (k : Int))).run Tryd.prog w = .ok (.pointer (some ⟨g, 16 + 16 * k, none⟩)) w := by
  have h1 : (k : Int) < 16 := by omega
  go_simp
  try simp [Nat.mul_comm]
theorem row_dbl (m k i : Nat) : (2 ^ i * 65536 ^ (16 + k) % m + 2 ^ i * 65536 ^ (16 + k) % m) % m = 2 ^ (i + 1) * 65536 ^ (16 + k) % m := by
  rw [← Nat.add_mod, ← Nat.two_mul, ← Nat.mul_assoc, Nat.pow_succ, Nat.mul_comm 2]
theorem row_end16 (m k : Nat) : 2 ^ 16 * 65536 ^ (16 + k) % m = rowN m (k + 1) := by
  have h : 65536 ^ (16 + (k + 1)) = 65536 ^ (16 + k) * 65536 := by rw [← Nat.add_assoc, Nat.pow_succ]
  have h2 : (2 : Nat) ^ 16 = 65536 := by decide
  unfold rowN
  rw [h, h2, Nat.mul_comm]
attribute [local go_sem] zero16
set_option maxRecDepth 100000 in
set_option maxHeartbeats 2000000 in
theorem newField_any (m : Nat) (w : World) (hm0 : 0 < m) (hm : m < 65536 ^ 16) :
    Calls Tryd.prog 20 #[.agg (d16 m)] w fun e w' => (∃ g, e = .returned (.pointer (some ⟨g, 0, none⟩)) ∧ IsField w' g m) ∧ Below w.heap.size w w' := by
  have cR := fun W => r3_any m W hm0 hm
  have e0 : 2 ^ 256 % m = rowN m 0 := by
    have h : (2 : Nat) ^ 256 = 65536 ^ (16 + 0) := by decide +kernel
    unfold rowN
    rw [h]
  rw [e0] at cR
  have cA := fun k i W => sum3_any (2 ^ i * 65536 ^ (16 + k) % m) (2 ^ i * 65536 ^ (16 + k) % m) m W (Nat.mod_lt _ hm0) (Nat.mod_lt _ hm0) hm
  simp only [row_dbl] at cA
  have HA := Lib.hid cA
  have hb := buildFld m
  have HB := Lib.hid hb
  clear e0 cA hm0 hm hb
  have n0 := d16_ne 0
  have h0 : Has (w.alloc (.cells (d16 m) 37)) w.heap.size 37 (d16 m) := Has.new _ _ _
  have hb0 : Below w.heap.size w (w.alloc (.cells (d16 m) 37)) := (Below.refl _ _).alloc (Nat.le_refl _) _
  have h1 : Has ((w.alloc (.cells (d16 m) 37)).alloc (.cells (fldC m 0) 61)) (w.heap.size + 1) 61 (fldC m 0) := Has.new' (by simp)
  replace h0 := h0.alloc (.cells (fldC m 0) 61)
  replace hb0 := hb0.alloc (by simp) (.cells (fldC m 0) 61)
  go_enter Tryd.func20, Tryd.ntmps20
  go_wp2_with (first | refine wpList_parts rfl 61 _ rfl #[(0, .agg (d16 m))] (by simp only [List.map_toArray, List.map_cons, List.map_nil]; rfl) (.agg (fldC m 0)) HB.out ?_ | refine wpList_load_has 37 _ rfl _ rfl rfl 37 _ h0 _ Tryd.underlying37 rfl (info16 _) ?_ | refine wpList_load_has 37 _ rfl _ rfl rfl 37 _ (Has.new w _ _) _ Tryd.underlying37 rfl (info16 _) ?_)
  refine (cR _).mono ?_
  rintro e w1 ⟨rfl, hx⟩
  have hsz : w.heap.size + 1 + 1 ≤ w1.heap.size := by have := hx.size; simp at this; omega
  replace h0 := h0.after hx
  replace h1 := h1.after hx
  replace hb0 := below_trans hb0 hx
  have hN := put_new w1 37 (d16 0) (d16 (rowN m 0))
  replace h0 := h0.after hN.2
  replace h1 := h1.after hN.2
  replace hb0 := below_trans hb0 hN.2
  have h2 := hN.1
  clear hx hN cR HB
  go_wp2_with (first | refine wpList_store_row rfl 37 _ _ rfl w1.heap.size _ rfl rfl 37 (d16 0) (Has.new' rfl) (info16 _) (by simp only [d16_size]) (tab_oneCell _ _ fun _ => rfl) ?_)
  generalize hWW : (w1.alloc _).setRow _ _ = W at *
  clear hWW
  generalize w1.heap.size = rb at *
  go_loopw [5, 6] (fun vk _ wr => ∃ k : Nat, k ≤ 16 ∧ vk = .int .i64 (k : Int) ∧ Has wr w.heap.size 37 (d16 m) ∧ Has wr (w.heap.size + 1) 61 (fldC m k) ∧ Has wr rb 37 (d16 (rowN m k)) ∧ Below w.heap.size w wr) (fun vk _ _ => 16 - (intOf vk).toNat)
  case atStart => exact ⟨0, by omega, rfl, h0, h1, h2, hb0⟩
  case round =>
    clear h0 h1 h2 hb0
    obtain ⟨k, hk, rfl, h0, h1, h2, hb⟩ := hrel
    by_cases hlt : k < 16
    · have dk : (k : Int) < 16 := by omega
      go_wp2_with fail
      refine region_quiet_tail (Below wr.heap.size wr) 6 (by kernel_rfl) (by kernel_rfl) (below_drewN (Below.refl _ _) 1) ?_
      simp only [List.take_succ_cons, List.take_zero, List.drop_succ_cons, List.drop_zero]
      refine wpQ_move _ rfl rfl (.pointer (some ⟨w.heap.size + 1, 0, none⟩)) rfl ?_
      simp only [Act.put, List.setIfInBounds_toArray, List.set_cons_zero, List.set_cons_succ]
      refine wpQ_move _ rfl rfl (.int .i64 (k : Int)) rfl ?_
      simp only [Act.put, List.setIfInBounds_toArray, List.set_cons_zero, List.set_cons_succ]
      refine wpQ_has 37 _ rfl _ rfl rfl 37 _ (fun w' hC => h2.after hC) _ Tryd.underlying37 rfl (info16 _) ?_
      simp only [Act.put, List.setIfInBounds_toArray, List.set_cons_zero, List.set_cons_succ]
      refine wpQ_val rfl (.pointer (some ⟨w.heap.size + 1, 0, none⟩)) (fun w' _ => by go_simp) ?_
      simp only [Act.put, List.setIfInBounds_toArray, List.set_cons_zero, List.set_cons_succ]
      refine wpQ_val rfl (.pointer (some ⟨w.heap.size + 1, 16, none⟩)) (fun w' _ => by go_simp) ?_
      simp only [Act.put, List.setIfInBounds_toArray, List.set_cons_zero, List.set_cons_succ]
      refine wpQ_indexAddr 59 _ _ rfl rfl _ _ rfl rfl (.pointer (some ⟨w.heap.size + 1, 16 + 16 * k, none⟩)) (fun w' _ => addrRow _ _ (by omega) w') ?_
      simp only [Act.put, List.setIfInBounds_toArray, List.set_cons_zero, List.set_cons_succ]
      refine wpQuiet_nil ?_
      intro w2 hC
      replace h0 := h0.after hC
      replace h1 := h1.after hC
      replace h2 := h2.after hC
      replace hb := below_trans hb hC
      clear hC
      have h1' := h1.setRow (fldC m (k + 1))
      have h0' := h0.farRow (k := w.heap.size + 1) (by omega) (fldC m (k + 1))
      have h2' := h2.farRow (k := w.heap.size + 1) (by omega) (fldC m (k + 1))
      have hb' := below_setRow hb (g := w.heap.size + 1) (by omega) (fldC m (k + 1))
      have hset := fld_row_set m k hlt
      clear h0 h2 hb
      go_wp2_with (first | refine wpList_store_hex rfl _ _ rfl (w.heap.size + 1) (16 + 16 * k) rfl (rowN m k) rfl 272 _ 61 h1 (by omega) (fldC m (k + 1)) hset ?_)
      clear hset h1
      generalize w2.setRow _ _ = w3 at *
      have hst : d16 (rowN m k) = d16 (2 ^ 0 * 65536 ^ (16 + k) % m) := by rw [Nat.pow_zero, Nat.one_mul]; rfl
      rw [hst] at h2'
      have HA2 := Lib.hid (HA.out k)
      have hen : d16 (2 ^ 16 * 65536 ^ (16 + k) % m) = d16 (rowN m (k + 1)) := by rw [row_end16]
      have HEN : Hid (d16 (2 ^ 16 * 65536 ^ (16 + k) % m) = d16 (rowN m (k + 1))) := Lib.hid hen
      clear hst hen
      obtain ⟨F, hF⟩ : ∃ F : Nat → Nat, F = fun i => 2 ^ i * 65536 ^ (16 + k) % m := ⟨_, rfl⟩
      have hf : ∀ i, 2 ^ i * 65536 ^ (16 + k) % m = F i := fun i => by rw [hF]
      rw [hf] at HEN h2'
      simp only [hf] at HA2
      clear hf hF
      go_loopw [6] (fun vi wr => ∃ i : Nat, i ≤ 16 ∧ vi = .int .i64 (i : Int) ∧ Has wr w.heap.size 37 (d16 m) ∧ Has wr (w.heap.size + 1) 61 (fldC m (k + 1)) ∧ Has wr rb 37 (d16 (F i)) ∧ Below w.heap.size w wr) (fun vi _ => 16 - (intOf vi).toNat)
      case atStart => exact ⟨0, by omega, rfl, h0', h1', h2', hb'⟩
      case round =>
        clear h0' h1' h2' hb'
        obtain ⟨i, hi, rfl, h0, h1, h2, hb⟩ := hrel
        by_cases hit : i < 16
        · have di : (i : Int) < 16 := by omega
          have cA := HA2.out i
          go_wp2_with (first | refine wpList_load_has 37 _ rfl _ rfl rfl 37 _ h0 _ Tryd.underlying37 rfl (info16 _) ?_ | refine wpList_load_has 37 _ rfl _ rfl rfl 37 _ h2 _ Tryd.underlying37 rfl (info16 _) ?_)
          refine (cA _).mono ?_
          rintro e w4 ⟨rfl, hx⟩
          replace h0 := h0.after hx
          replace h1 := h1.after hx
          replace h2 := h2.after hx
          replace hb := below_trans hb hx
          have h2' := h2.setRow (d16 (F (i + 1)))
          replace h0 := h0.farRow (k := rb) (by omega) (d16 (F (i + 1)))
          replace h1 := h1.farRow (k := rb) (by omega) (d16 (F (i + 1)))
          replace hb := below_setRow hb (g := rb) (by omega) (d16 (F (i + 1)))
          clear hx cA
          go_wp2_with (first | refine wpList_store_row rfl 37 _ _ rfl (rb) _ rfl rfl 37 _ h2 (info16 _) (by simp only [d16_size]) (tab_oneCell _ _ fun _ => rfl) ?_)
          go_roundw
          case rel => exact ⟨i + 1, by omega, by go_num, h0, h1, h2', hb⟩
          case measure => simp [intOf]; omega
        · have hi16 : i = 16 := by omega
          have di : ¬ (i : Int) < 16 := by omega
          rw [hi16, HEN.out] at h2
          clear hi16 hit hi
          go_wp2_with fail
          go_roundw
          case rel => exact ⟨k + 1, by omega, by go_num, h0, h1, h2, hb⟩
          case measure => simp [intOf]; omega
    · have hk16 : k = 16 := by omega
      have dk : ¬ (k : Int) < 16 := by omega
      rw [hk16] at h1
      clear hk16 hlt hk h2
      go_wp2_with fail
      go_ret
      exact ⟨⟨w.heap.size + 1, rfl, h1⟩, hb⟩
end Go.Proofs.YtflkhlhpifmocaaDoor
namespace Go.Proofs.YtflkhlhpifmocaaDoor
open Go.RowKit

theorem IsField.after {w w' : World} {g m : Nat} (h : IsField w g m) (k : Below w.heap.size w w') : IsField w' g m := Has.after h k
theorem IsField.lt {w : World} {g m : Nat} (h : IsField w g m) : g < w.heap.size := Has.lt h
attribute [local go_sem] zero16
set_option maxRecDepth 100000 in
set_option maxHeartbeats 2000000 in
theorem neg_any (y m g : Nat) (w : World) (hF : IsField w g m) (hy : y ≤ m) (hm16 : m < 65536 ^ 16) :
    Calls Tryd.prog 82 #[.pointer (some ⟨g, 0, none⟩), .agg (d16 y)] w fun e w' => e = .returned (.agg (d16 (m - y))) ∧ Below w.heap.size w w' := by
  have hy17 : y < 65536 ^ 17 := Nat.lt_of_lt_of_le (Nat.lt_of_le_of_lt hy hm16) (Nat.pow_le_pow_right (by decide) (by decide))
  have hlo := fun k (hk : k < 16) => take_lo m y k (by omega) hy17
  have hhi := take_hi m y
  obtain ⟨D, hDD⟩ : ∃ D, D = m + 65536 ^ 17 - y := ⟨_, rfl⟩
  have hres : d16 (D % 65536 ^ 16) = d16 (m - y) := by
    rw [hDD]
    unfold d16
    refine dgs_congr ?_
    rw [show m + 65536 ^ 17 - y = (m - y) + 65536 ^ 16 * 65536 by omega, Nat.add_mul_mod_self_left, Nat.mod_mod]
  rw [← hDD] at hlo
  have HLO := Lib.hid hlo
  have HHI := Lib.hid hhi
  have HR := Lib.hid hres
  clear hlo hhi hres hDD hy17 hy hm16
  generalize m - y = r at *
  have n0 := d16_ne 0
  have h0 : Has (((w.alloc (.cells (d16 y) 37)).alloc (.cells (d16 0) 37)).alloc (.cells (d16 0) 37)) w.heap.size 37 (d16 y) := ((Has.new w _ _).alloc _).alloc _
  have h1 : Has (((w.alloc (.cells (d16 y) 37)).alloc (.cells (d16 0) 37)).alloc (.cells (d16 0) 37)) (w.heap.size + 1) 37 (d16 0) := (Has.new' (by simp)).alloc _
  have h2 : Has (((w.alloc (.cells (d16 y) 37)).alloc (.cells (d16 0) 37)).alloc (.cells (d16 0) 37)) (w.heap.size + 1 + 1) 37 (d16 0) := Has.new' (by simp)
  have hb : Below w.heap.size w (((w.alloc (.cells (d16 y) 37)).alloc (.cells (d16 0) 37)).alloc (.cells (d16 0) 37)) := (((Below.refl _ _).alloc (Nat.le_refl _) _).alloc (by simp) _).alloc (by simp <;> omega) _
  have hg := hF.lt
  replace hF := hF.after hb
  unfold IsField at hF
  go_enter Tryd.func82, Tryd.ntmps82
  go_wp2_with fail
  go_loopw [6, 7, 8] (fun vc vi _ wr => ∃ j : Nat, j ≤ 16 ∧ vi = .int .i64 (j : Int) ∧ vc = .int .u64 ((bor3 m y j : Nat) : Int) ∧ Has wr w.heap.size 37 (d16 y) ∧ Has wr (w.heap.size + 1) 37 (d16 0) ∧ Has wr (w.heap.size + 1 + 1) 37 (d16 (D % 65536 ^ j)) ∧ Has wr g 61 (fldC m 16) ∧ Below w.heap.size w wr) (fun _ vi _ _ => 16 - (intOf vi).toNat)
  case atStart => exact ⟨0, by omega, rfl, by rw [bor3, bor_zero]; rfl, h0, h1, by rw [Nat.pow_zero, Nat.mod_one]; exact h2, hF, hb⟩
  case round =>
    clear h0 h1 h2 hb hF
    obtain ⟨j, hj, rfl, rfl, h0, h1, h2, hF, hb⟩ := hrel
    by_cases hjt : j < 16
    · have dj : (j : Int) < 16 := by omega
      have c0 := d16_at h0 j hjt
      have c1 := fld_mod_at hF j hjt
      have l0 : ((hxd m j : Nat) : Int) < 65536 := by have := hxd_lt m j; omega
      have l1 : ((hxd y j : Nat) : Int) < 65536 := by have := hxd_lt y j; omega
      have l2 : ((bor3 m y j : Nat) : Int) ≤ 1 := by have := bor3_le m y j; omega
      have e1 := HLO.out j hjt
      have e2 := HHI.out j
      go_wp2_with fail
      go_quiet (fail)
      replace h0 := h0.drewN nq
      replace h1 := h1.drewN nq
      replace h2 := h2.drewN nq
      replace hF := hF.drewN nq
      replace hb := below_drewN hb nq
      clear c0 c1
      generalize hq : Go.World.drewN _ nq = wq at *
      clear hq
      have f0 := h2.free j
      have c0 := h2.cellTab j hjt
      go_wp2_with fail
      go_roundw
      case rel => exact ⟨j + 1, by omega, by go_num, by rw [← e2], h0.far (by simp <;> omega) _, h1.far (by simp <;> omega) _, by rw [← d16_set hjt, ← e1]; exact h2.set j _, hF.far (by simp <;> omega) _, hb.setCell (by simp <;> omega) _⟩
      case measure => simp [intOf]; omega
    · have ej : j = 16 := by omega
      have dj : ¬ (j : Int) < 16 := by omega
      rw [ej, HR.out] at h2
      clear ej hj hjt h0 hF
      go_wp2_with (first | refine wpList_load_has 37 _ rfl _ rfl rfl 37 _ h2 _ Tryd.underlying37 rfl (info16 _) ?_ | refine wpList_store_row rfl 37 _ _ rfl (w.heap.size + 1) _ rfl rfl 37 _ h1 (info16 _) (by simp only [d16_size]) (tab_oneCell _ _ fun _ => rfl) ?_)
      exact bodyPost_ret (v := .agg (d16 r)) (results_cell_row rfl _ _ (w.heap.size + 1) 37 _ _ _ rfl (h1.setRow _) Tryd.underlying37 rfl (info16 _)) rfl ⟨rfl, below_setRow hb (by omega) _⟩
end Go.Proofs.YtflkhlhpifmocaaDoor
namespace Go.Proofs.YtflkhlhpifmocaaDoor
open Go.RowKit

def upd (f : Nat → Nat) (j v : Nat) (i : Nat) : Nat := if i = j then v else f i
theorem tabF_set (n : Nat) (f : Nat → Nat) (j v : Nat) : (tabF n f).setIfInBounds j (.int .u64 ((v : Nat) : Int)) = tabF n (upd f j v) := by
  unfold tabF
  rw [tab_set]
  refine tab_ext _ _ _ fun i _ => ?_
  unfold upd
  by_cases h : i = j
  · rw [if_pos h, if_pos h]
  · rw [if_neg h, if_neg h]
theorem valF_upd_ge (f : Nat → Nat) (j v : Nat) : ∀ n, n ≤ j → valF (upd f j v) n = valF f n
  | 0, _ => rfl
  | n + 1, h => by
    show valF (upd f j v) n + upd f j v n * 65536 ^ n = valF f n + f n * 65536 ^ n
    rw [valF_upd_ge f j v n (by omega)]
    unfold upd
    rw [if_neg (by omega)]
theorem valF_upd (f : Nat → Nat) (j d : Nat) : ∀ n, j < n → valF (upd f j (f j + d)) n = valF f n + d * 65536 ^ j
  | 0, h => by omega
  | n + 1, h => by
    show valF (upd f j (f j + d)) n + upd f j (f j + d) n * 65536 ^ n = valF f n + f n * 65536 ^ n + d * 65536 ^ j
    by_cases e : n = j
    · subst e
      rw [valF_upd_ge f n _ n (Nat.le_refl _)]
      have : upd f n (f n + d) n = f n + d := by simp [upd]
      rw [this, Nat.add_mul, Nat.add_assoc]
    · rw [valF_upd f j d n (by omega)]
      have : upd f j (f j + d) n = f n := by simp [upd, e]
      rw [this]
      omega
theorem valF_zero : ∀ n, valF (fun _ => 0) n = 0
  | 0 => rfl
  | n + 1 => by show valF _ n + 0 * _ = 0; rw [valF_zero n]; simp
theorem prdH_le (x y i k : Nat) : hxd x i * hxd y k ≤ 4294836225 := Nat.mul_le_mul (Nat.le_of_lt_succ (hxd_lt x i)) (Nat.le_of_lt_succ (hxd_lt y k))

/-- i rows, and k digits of the next one, are added -/
def prodIs (x y i k : Nat) (f : Nat → Nat) : Prop := (∀ j, f j ≤ (if j < i + k then i + 1 else i) * 4294836225) ∧ valF f 33 = (x % 65536 ^ i) * y + hxd x i * (y % 65536 ^ k) * 65536 ^ i
theorem prod_start (x y : Nat) : prodIs x y 0 0 (fun _ => 0) := by
  refine ⟨fun j => by simp, ?_⟩
  rw [valF_zero]
  simp [Nat.mod_one]
theorem prod_step {x y i k : Nat} {f : Nat → Nat} (hi : i < 16) (hk : k < 16) (h : prodIs x y i k f) : prodIs x y i (k + 1) (upd f (i + k) (f (i + k) + hxd x i * hxd y k)) := by
  obtain ⟨h1, h2⟩ := h
  have hp := prdH_le x y i k
  refine ⟨fun j => ?_, ?_⟩
  · unfold upd
    by_cases e : j = i + k
    · rw [if_pos e, if_pos (by omega)]
      have := h1 (i + k)
      rw [if_neg (by omega)] at this
      rw [Nat.succ_mul]
      omega
    · rw [if_neg e]
      have := h1 j
      by_cases c : j < i + k
      · rw [if_pos c] at this; rw [if_pos (by omega)]; exact this
      · rw [if_neg c] at this; rw [if_neg (by omega)]; exact this
  · rw [valF_upd _ _ _ _ (by omega), h2, mod_step 65536 y k]
    have e3 : hxd x i * (65536 ^ k * hxd y k) * 65536 ^ i = hxd x i * hxd y k * 65536 ^ (i + k) := by
      rw [Nat.pow_add, Nat.mul_comm (65536 ^ k) (hxd y k), ← Nat.mul_assoc, Nat.mul_assoc (hxd x i * hxd y k), Nat.mul_comm (65536 ^ k)]
    have e4 : hxd x i * (y % 65536 ^ k + 65536 ^ k * dg 65536 y k) * 65536 ^ i = hxd x i * (y % 65536 ^ k) * 65536 ^ i + hxd x i * (65536 ^ k * hxd y k) * 65536 ^ i := by
      rw [Nat.mul_add, Nat.add_mul]; rfl
    rw [e4, e3, Nat.add_assoc]
theorem prod_row {x y i : Nat} {f : Nat → Nat} (hy : y < 65536 ^ 16) (h : prodIs x y i 16 f) : prodIs x y (i + 1) 0 f := by
  obtain ⟨h1, h2⟩ := h
  refine ⟨fun j => ?_, ?_⟩
  · have a1 : (if j < i + 16 then i + 1 else i) ≤ i + 1 := by split <;> omega
    have a2 : i + 1 ≤ (if j < i + 1 + 0 then i + 1 + 1 else i + 1) := by split <;> omega
    exact Nat.le_trans (h1 j) (Nat.mul_le_mul_right _ (Nat.le_trans a1 a2))
  · rw [h2, Nat.mod_eq_of_lt hy, mod_step 65536 x i, Nat.pow_zero, Nat.mod_one, Nat.mul_zero, Nat.zero_mul, Nat.add_zero, Nat.add_mul, Nat.mul_comm (65536 ^ i) (dg 65536 x i), Nat.mul_assoc (dg 65536 x i), Nat.mul_comm (65536 ^ i) y, ← Nat.mul_assoc]
    rfl
theorem prod_end {x y : Nat} {f : Nat → Nat} (hx : x < 65536 ^ 16) (h : prodIs x y 16 0 f) : (∀ j, f j < 1152921504606846976) ∧ valF f 33 = x * y := by
  obtain ⟨h1, h2⟩ := h
  refine ⟨fun j => ?_, ?_⟩
  · have := h1 j
    split at this <;> omega
  · rw [h2, Nat.mod_eq_of_lt hx, Nat.pow_zero, Nat.mod_one, Nat.mul_zero, Nat.zero_mul, Nat.add_zero]
theorem prod_lt {x y i k : Nat} {f : Nat → Nat} (hi : i < 16) (h : prodIs x y i k f) (j : Nat) : f j ≤ 68717379600 := by
  have := h.1 j
  split at this <;> omega

/-- the lower half, and k of the upper digits folded -/
def foldN (V m : Nat) : Nat → Nat
  | 0 => V % 65536 ^ 16
  | k + 1 => foldN V m k + hxd V (16 + k) * rowN m k
/-- the first i digits of V -/
def lowF16 (V i j : Nat) : Nat := if j < i then hxd V j else 0
theorem lowF16_val (V : Nat) : ∀ i n, i ≤ n → valF (lowF16 V i) n = V % 65536 ^ i := by
  intro i n h
  have key : ∀ n, valF (lowF16 V i) n = V % 65536 ^ (min i n) := by
    intro n
    induction n with
    | zero => simp [valF, Nat.mod_one]
    | succ n ih =>
      show valF (lowF16 V i) n + lowF16 V i n * 65536 ^ n = _
      rw [ih]
      unfold lowF16
      by_cases c : n < i
      · rw [if_pos c, show min i n = n by omega, show min i (n + 1) = n + 1 by omega, mod_step 65536 V n, Nat.mul_comm (65536 ^ n)]
        rfl
      · rw [if_neg c, Nat.zero_mul, Nat.add_zero, show min i n = i by omega, show min i (n + 1) = i by omega]
  rw [key, show min i n = i by omega]
/-- k rows are added, and i digits of the next one -/
def foldIs (V m k i : Nat) (f : Nat → Nat) : Prop := (∀ j, f j ≤ 65535 + (if j < i then k + 1 else k) * 4294836225) ∧ valF f 33 = foldN V m k + hxd V (16 + k) * (rowN m k % 65536 ^ i)
theorem fold_start (V m : Nat) : foldIs V m 0 0 (lowF16 V 16) := by
  refine ⟨fun j => ?_, ?_⟩
  · have := hxd_lt V j
    unfold lowF16
    split <;> omega
  · rw [lowF16_val V 16 33 (by omega), Nat.pow_zero, Nat.mod_one, Nat.mul_zero, Nat.add_zero]
    rfl
theorem fold_step {V m k i : Nat} {f : Nat → Nat} (hi : i < 16) (h : foldIs V m k i f) : foldIs V m k (i + 1) (upd f i (f i + hxd V (16 + k) * hxd (rowN m k) i)) := by
  obtain ⟨h1, h2⟩ := h
  have hp := prdH_le V (rowN m k) (16 + k) i
  refine ⟨fun j => ?_, ?_⟩
  · unfold upd
    by_cases e : j = i
    · rw [if_pos e, if_pos (by omega)]
      have := h1 i
      rw [if_neg (by omega)] at this
      rw [Nat.succ_mul]
      omega
    · rw [if_neg e]
      have := h1 j
      by_cases c : j < i
      · rw [if_pos c] at this; rw [if_pos (by omega)]; exact this
      · rw [if_neg c] at this; rw [if_neg (by omega)]; exact this
  · rw [valF_upd _ _ _ _ (by omega), h2, mod_step 65536 (rowN m k) i, Nat.mul_add, ← Nat.add_assoc]
    congr 1
    rw [Nat.mul_comm (65536 ^ i), ← Nat.mul_assoc]
    rfl
theorem fold_row {V m k : Nat} {f : Nat → Nat} (hr : rowN m k < 65536 ^ 16) (h : foldIs V m k 16 f) : foldIs V m (k + 1) 0 f := by
  obtain ⟨h1, h2⟩ := h
  refine ⟨fun j => ?_, ?_⟩
  · have a1 : (if j < 16 then k + 1 else k) ≤ k + 1 := by split <;> omega
    have a2 : k + 1 ≤ (if j < 0 then k + 1 + 1 else k + 1) := by split <;> omega
    exact Nat.le_trans (h1 j) (Nat.add_le_add_left (Nat.mul_le_mul_right _ (Nat.le_trans a1 a2)) _)
  · rw [h2, Nat.mod_eq_of_lt hr, Nat.pow_zero, Nat.mod_one, Nat.mul_zero, Nat.add_zero]
    rfl
theorem fold_skip {V m k : Nat} {f : Nat → Nat} (hz : hxd V (16 + k) = 0) (h : foldIs V m k 0 f) : foldIs V m (k + 1) 0 f := by
  obtain ⟨h1, h2⟩ := h
  refine ⟨fun j => ?_, ?_⟩
  · have a1 : (if j < 0 then k + 1 else k) ≤ k + 1 := by split <;> omega
    have a2 : k + 1 ≤ (if j < 0 then k + 1 + 1 else k + 1) := by split <;> omega
    exact Nat.le_trans (h1 j) (Nat.add_le_add_left (Nat.mul_le_mul_right _ (Nat.le_trans a1 a2)) _)
  · rw [h2, hz, Nat.zero_mul, Nat.add_zero]
    show foldN V m k = foldN V m k + hxd V (16 + k) * rowN m k + hxd V (16 + (k + 1)) * (rowN m (k + 1) % 65536 ^ 0)
    rw [hz, Nat.zero_mul, Nat.pow_zero, Nat.mod_one, Nat.mul_zero, Nat.add_zero]
theorem fold_lt {V m k i : Nat} {f : Nat → Nat} (hk : k < 16) (h : foldIs V m k i f) (j : Nat) : f j ≤ 68717445135 := by
  have := h.1 j
  split at this <;> omega
theorem fold_end {V m : Nat} {f : Nat → Nat} (h : foldIs V m 16 0 f) : (∀ j, f j < 1152921504606846976) ∧ valF f 33 = foldN V m 16 := by
  obtain ⟨h1, h2⟩ := h
  refine ⟨fun j => ?_, ?_⟩
  · have := h1 j
    split at this <;> omega
  · rw [h2, Nat.pow_zero, Nat.mod_one, Nat.mul_zero, Nat.add_zero]
theorem foldN_mod (V m : Nat) : ∀ k, foldN V m k % m = V % 65536 ^ (16 + k) % m
  | 0 => rfl
  | k + 1 => by
    show (foldN V m k + hxd V (16 + k) * rowN m k) % m = _
    have e : V % 65536 ^ (16 + (k + 1)) = V % 65536 ^ (16 + k) + 65536 ^ (16 + k) * dg 65536 V (16 + k) := mod_step 65536 V (16 + k)
    rw [e, Nat.add_mod, foldN_mod V m k, Nat.add_mod (V % 65536 ^ (16 + k))]
    congr 2
    unfold rowN
    rw [Nat.mul_mod, Nat.mod_mod, ← Nat.mul_mod, Nat.mul_comm]
    rfl
theorem fold_mod {V m : Nat} (hV : V < 65536 ^ 32) : foldN V m 16 % m = V % m := by
  rw [foldN_mod, Nat.mod_eq_of_lt hV]

/- three rounds are enough -/
def h256 : Nat := 65536 ^ 16
theorem row_lt {m : Nat} (hm0 : 0 < m) (hm : m < 65536 ^ 16) (k : Nat) : rowN m k < 65536 ^ 16 := Nat.lt_trans (Nat.mod_lt _ hm0) hm
theorem foldN_le {V m : Nat} (hm0 : 0 < m) (hm : m < 65536 ^ 16) : ∀ k, foldN V m k < 65536 ^ 16 + k * (65535 * 65536 ^ 16)
  | 0 => by
    have := Nat.mod_lt V (show 0 < 65536 ^ 16 by decide)
    show V % 65536 ^ 16 < _
    omega
  | k + 1 => by
    show foldN V m k + hxd V (16 + k) * rowN m k < _
    have h1 := foldN_le (V := V) hm0 hm k
    have h2 := row_lt hm0 hm k
    have h3 := hxd_lt V (16 + k)
    have h4 : hxd V (16 + k) * rowN m k ≤ 65535 * 65536 ^ 16 := Nat.mul_le_mul (by omega) (Nat.le_of_lt h2)
    rw [Nat.succ_mul]
    omega
theorem fold1 {V m : Nat} (hm0 : 0 < m) (hm : m < 65536 ^ 16) : foldN V m 16 < 65536 ^ 16 * 1048576 := by
  have := foldN_le (V := V) hm0 hm 16
  omega
theorem foldN_two {V m : Nat} (hV : V < 65536 ^ 18) : ∀ k, 2 ≤ k → foldN V m k = V % 65536 ^ 16 + hxd V 16 * rowN m 0 + hxd V 17 * rowN m 1
  | 0, h => by omega
  | 1, h => by omega
  | 2, _ => rfl
  | k + 3, _ => by
    show foldN V m (k + 2) + hxd V (16 + (k + 2)) * rowN m (k + 2) = _
    have hz : hxd V (16 + (k + 2)) = 0 := dg_top (by decide) hV (by omega)
    rw [hz, Nat.zero_mul, Nat.add_zero, foldN_two hV (k + 2) (by omega)]
theorem rows01 {m : Nat} (hm : m < 65536 ^ 16) (h2 : 65536 ^ 16 < 2 * m) (hd : 65536 ^ 16 - m < 2 ^ 225) : rowN m 0 = 65536 ^ 16 - m ∧ rowN m 1 < 2 ^ 241 := by
  have e0 : rowN m 0 = 65536 ^ 16 - m := by
    unfold rowN
    rw [Nat.add_zero, Nat.mod_eq_sub_mod (Nat.le_of_lt hm), Nat.mod_eq_of_lt (by omega)]
  refine ⟨e0, ?_⟩
  have e1 : rowN m 1 = rowN m 0 * 65536 % m := by
    unfold rowN
    have : (65536 : Nat) ^ (16 + 1) = 65536 ^ (16 + 0) * 65536 := by decide +kernel
    rw [this]
    generalize 65536 ^ (16 + 0) = z
    rw [Nat.mod_mul_mod]
  rw [e1, e0]
  refine Nat.lt_of_le_of_lt (Nat.mod_le _ _) ?_
  have : (2 : Nat) ^ 241 = 2 ^ 225 * 65536 := by decide +kernel
  rw [this]
  exact Nat.mul_lt_mul_of_pos_right hd (by decide)
theorem top2 {V : Nat} (hV : V < 65536 ^ 16 * 1048576) : V < 65536 ^ 18 ∧ hxd V 17 < 16 := by
  have e : (65536 : Nat) ^ 18 = 65536 ^ 16 * 4294967296 := by decide +kernel
  have h1 : V < 65536 ^ 18 := by rw [e]; omega
  refine ⟨h1, ?_⟩
  unfold hxd dg
  have h2 : V / 65536 ^ 17 < 16 := by
    rw [Nat.div_lt_iff_lt_mul (by decide)]
    have e2 : (16 : Nat) * 65536 ^ 17 = 65536 ^ 16 * 1048576 := by decide +kernel
    rw [e2]; exact hV
  exact Nat.lt_of_le_of_lt (Nat.mod_le _ _) h2
theorem fold2 {V m : Nat} (hm : m < 65536 ^ 16) (h2 : 65536 ^ 16 < 2 * m) (hd : 65536 ^ 16 - m < 2 ^ 225) (hV : V < 65536 ^ 16 * 1048576) : foldN V m 16 < 65536 ^ 16 + 2 ^ 246 := by
  obtain ⟨h18, h17⟩ := top2 hV
  obtain ⟨r0, r1⟩ := rows01 hm h2 hd
  rw [foldN_two h18 16 (by omega), r0]
  have a1 := Nat.mod_lt V (show 0 < 65536 ^ 16 by decide)
  have a2 : hxd V 16 * (65536 ^ 16 - m) ≤ 65535 * 2 ^ 225 := Nat.mul_le_mul (by have := hxd_lt V 16; omega) (Nat.le_of_lt hd)
  have a3 : hxd V 17 * rowN m 1 ≤ 16 * 2 ^ 241 := Nat.mul_le_mul (by omega) (Nat.le_of_lt r1)
  have e : (65535 : Nat) * 2 ^ 225 + 16 * 2 ^ 241 < 2 ^ 246 := by decide +kernel
  omega
theorem fold3 {V m : Nat} (hm : m < 65536 ^ 16) (h2 : 65536 ^ 16 < 2 * m) (hd : 65536 ^ 16 - m < 2 ^ 225) (hV : V < 65536 ^ 16 + 2 ^ 246) : foldN V m 16 < 65536 ^ 16 := by
  have e246 : (2 : Nat) ^ 246 + 2 ^ 225 < 65536 ^ 16 := by decide +kernel
  have e18 : (65536 : Nat) ^ 16 + 2 ^ 246 ≤ 65536 ^ 17 := by decide +kernel
  have h17 : V < 65536 ^ 17 := by omega
  have h18 : V < 65536 ^ 18 := Nat.lt_trans h17 (by decide +kernel)
  obtain ⟨r0, r1⟩ := rows01 hm h2 hd
  have z17 : hxd V 17 = 0 := dg_top (by decide) h17 (Nat.le_refl _)
  rw [foldN_two h18 16 (by omega), r0, z17, Nat.zero_mul, Nat.add_zero]
  by_cases c : V < 65536 ^ 16
  · have z16 : hxd V 16 = 0 := dg_top (by decide) c (Nat.le_refl _)
    rw [z16, Nat.zero_mul, Nat.add_zero, Nat.mod_eq_of_lt c]
    exact c
  · have hone : V / 65536 ^ 16 = 1 := by
      have l : 65536 ^ 16 * 1 ≤ V := by omega
      have u : V < 65536 ^ 16 * 2 := by omega
      have := (Nat.le_div_iff_mul_le (show 0 < 65536 ^ 16 by decide)).2 (by rw [Nat.mul_comm]; exact l)
      have := (Nat.div_lt_iff_lt_mul (show 0 < 65536 ^ 16 by decide)).2 (by rw [Nat.mul_comm] at u; exact u)
      omega
    have z16 : hxd V 16 = 1 := by unfold hxd dg; rw [hone]
    have hm2 := Nat.div_add_mod V (65536 ^ 16)
    rw [hone] at hm2
    rw [z16, Nat.one_mul]
    omega
theorem fold_done {V : Nat} (hV : V < 65536 ^ 18) (h16 : hxd V 16 = 0) (h17 : hxd V 17 = 0) : V < 65536 ^ 16 := by
  have e1 : V % 65536 ^ 17 = V % 65536 ^ 16 + 65536 ^ 16 * dg 65536 V 16 := mod_step 65536 V 16
  have e2 : V % 65536 ^ 18 = V % 65536 ^ 17 + 65536 ^ 17 * dg 65536 V 17 := mod_step 65536 V 17
  have h16' : dg 65536 V 16 = 0 := h16
  have h17' : dg 65536 V 17 = 0 := h17
  rw [h16', Nat.mul_zero, Nat.add_zero] at e1
  rw [h17', Nat.mul_zero, Nat.add_zero, e1, Nat.mod_eq_of_lt hV] at e2
  rw [e2]
  exact Nat.mod_lt _ (by decide)
end Go.Proofs.YtflkhlhpifmocaaDoor
namespace Go.Proofs.YtflkhlhpifmocaaDoor
open Go.RowKit

theorem inf33 : (Tryd.prog.info? 95).map (fun i => (i.zero, i.size)) = some (some (.agg (tabF 33 fun _ => 0)), 33) := by kernel_rfl
theorem zeroV33 (w : World) : (zeroValue 95).run Tryd.prog w = .ok (.agg (tabF 33 fun _ => 0)) w := (zero_of_info inf33).1 w
theorem d33_size (x : Nat) : (d33 x).size = 33 := tab_size _ _
theorem info33 (x : Nat) : (Tryd.prog.info? 95).map (·.size) = some (d33 x).size := by rw [d33_size]; kernel_rfl
theorem d33_at {w : World} {g x : Nat} {t : TypeId} (h : Has w g t (d33 x)) (j : Nat) (hj : j < 33) : w.cell? ⟨g, j, none⟩ = some (.int .u64 ((hxd x j : Nat) : Int)) := h.cellTab j hj
theorem drewN_ex2 (w : World) (a : Nat) : ∃ n, { w.drewN a with drawn := (w.drewN a).drawn + 1 } = w.drewN n := ⟨a + 1, by simp [World.drewN, Nat.add_assoc]⟩
theorem zero33 : (#[Value.int IntKind.u64 0, Value.int IntKind.u64 0, Value.int IntKind.u64 0, Value.int IntKind.u64 0, Value.int IntKind.u64 0, Value.int IntKind.u64 0, Value.int IntKind.u64 0, Value.int IntKind.u64 0, Value.int IntKind.u64 0, Value.int IntKind.u64 0, Value.int IntKind.u64 0, Value.int IntKind.u64 0, Value.int IntKind.u64 0, Value.int IntKind.u64 0, Value.int IntKind.u64 0, Value.int IntKind.u64 0, Value.int IntKind.u64 0, Value.int IntKind.u64 0, Value.int IntKind.u64 0, Value.int IntKind.u64 0, Value.int IntKind.u64 0, Value.int IntKind.u64 0, Value.int IntKind.u64 0, Value.int IntKind.u64 0, Value.int IntKind.u64 0, Value.int IntKind.u64 0, Value.int IntKind.u64 0, Value.int IntKind.u64 0, Value.int IntKind.u64 0, Value.int IntKind.u64 0, Value.int IntKind.u64 0, Value.int IntKind.u64 0, Value.int IntKind.u64 0] : Array Value) = tabF 33 fun _ => 0 := by kernel_rfl
theorem Has.grownF {w w' : World} {g l : Nat} {t : TypeId} {cs : Array Value} (h : Has w g t cs) (k : w.grownBy w' (some l)) (hne : g ≠ l) : Has w' g t cs :=
  (k.block g h.lt (by simp; omega)).trans h
/-- what the walk knows all the time -/
structure MulFr (w wr : World) (g m : Nat) : Prop where
  R : Has wr (w.heap.size + 1 + 1) 37 (d16 0)
  F : Has wr g 61 (fldC m 16)
  b : Below w.heap.size w wr
  l : g < w.heap.size
section
variable {w wr wr' : World} {g m : Nat}
theorem MulFr.drewN (h : MulFr w wr g m) (n : Nat) : MulFr w (wr.drewN n) g m := ⟨h.R.drewN n, h.F.drewN n, below_drewN h.b n, h.l⟩
theorem MulFr.after (h : MulFr w wr g m) (k : Below wr.heap.size wr wr') : MulFr w wr' g m := ⟨h.R.after k, h.F.after k, below_trans h.b k, h.l⟩
theorem MulFr.far (h : MulFr w wr g m) {a : Addr} (ha : w.heap.size + 1 + 1 < a.block) (v : Value) : MulFr w (wr.setCell a v) g m := ⟨h.R.far (by omega) v, h.F.far (by have := h.l; omega) v, h.b.setCell (by omega) v, h.l⟩
theorem MulFr.grown (h : MulFr w wr g m) {l : Nat} (k : wr.grownBy wr' (some l)) (hl : w.heap.size + 1 + 1 < l) : MulFr w wr' g m :=
  ⟨h.R.grownF k (by omega), h.F.grownF k (by have := h.l; omega), h.b.trans (below_of_only k (B := w.heap.size) (by omega) h.b.size), h.l⟩
theorem MulFr.row (h : MulFr w wr g m) {l : Nat} (hl : w.heap.size + 1 + 1 < l) (cs : Array Value) : MulFr w (wr.setRow l cs) g m :=
  ⟨h.R.farRow (by omega) cs, h.F.farRow (by have := h.l; omega) cs, below_setRow h.b (by omega) cs, h.l⟩
theorem MulFr.alloc (h : MulFr w wr g m) (ob : Obj) : MulFr w (wr.alloc ob) g m := ⟨h.R.alloc ob, h.F.alloc ob, h.b.alloc h.b.size ob, h.l⟩
end
def bndR (r V : Nat) : Prop := (r = 0 ∧ V < 65536 ^ 32) ∨ (r = 1 ∧ V < 65536 ^ 16 * 1048576) ∨ (r = 2 ∧ V < 65536 ^ 16 + 2 ^ 246)
theorem bnd_next {r V m : Nat} (hm0 : 0 < m) (hm : m < 65536 ^ 16) (h2 : 65536 ^ 16 < 2 * m) (hd : 65536 ^ 16 - m < 2 ^ 225) (h : bndR r V) :
    foldN V m 16 % m = V % m ∧ foldN V m 16 < 65536 ^ 18 ∧ (foldN V m 16 < 65536 ^ 16 ∨ (r + 1 ≤ 2 ∧ bndR (r + 1) (foldN V m 16))) := by
  have e1 : (65536 : Nat) ^ 16 * 1048576 < 65536 ^ 18 := by decide +kernel
  have e2 : (65536 : Nat) ^ 16 + 2 ^ 246 < 65536 ^ 18 := by decide +kernel
  have e3 : (65536 : Nat) ^ 18 < 65536 ^ 32 := by decide +kernel
  have f1 := fold1 (V := V) hm0 hm
  rcases h with ⟨rfl, h⟩ | ⟨rfl, h⟩ | ⟨rfl, h⟩
  · exact ⟨fold_mod h, by omega, .inr ⟨by omega, .inr (.inl ⟨rfl, f1⟩)⟩⟩
  · exact ⟨fold_mod (by omega), by omega, .inr ⟨by omega, .inr (.inr ⟨rfl, fold2 hm h2 hd h⟩)⟩⟩
  · exact ⟨fold_mod (by omega), by omega, .inl (fold3 hm h2 hd h)⟩
theorem lowF16_set (V i : Nat) : tabF 33 (upd (lowF16 V i) i (hxd V i)) = tabF 33 (lowF16 V (i + 1)) := tab_ext _ _ _ fun j _ => by
  congr 2
  unfold upd lowF16
  by_cases h : j = i
  · subst h; simp
  · rw [if_neg h]
    by_cases h2 : j < i
    · rw [if_pos h2, if_pos (by omega)]
    · rw [if_neg h2, if_neg (by omega)]
theorem lowF16_zero (V : Nat) : tabF 33 (lowF16 V 0) = tabF 33 fun _ => 0 := tab_ext _ _ _ fun j _ => by simp [lowF16]
attribute [local go_sem] zero16 zero33
set_option maxRecDepth 100000 in
set_option maxHeartbeats 4000000 in
theorem fmul_any (x y m g : Nat) (w : World) (hF : IsField w g m) (hx : x < 65536 ^ 16) (hy : y < 65536 ^ 16) (hxy : x * y < 65536 ^ 32) (hm16 : m < 65536 ^ 16) (h2m : 65536 ^ 16 < 2 * m) (hd : 65536 ^ 16 - m < 2 ^ 225) :
    Calls Tryd.prog 30 #[.pointer (some ⟨g, 0, none⟩), .agg (d16 x), .agg (d16 y)] w fun e w' => e = .returned (.agg (d16 (x * y % m))) ∧ Below w.heap.size w w' := by
  have HY := Lib.hid hy
  have HX := Lib.hid hx
  obtain ⟨VV, hVV⟩ : ∃ v, v = x * y := ⟨_, rfl⟩
  rw [← hVV] at hxy ⊢
  have HXY := Lib.hid hxy
  have HVV := Lib.hid hVV
  clear hVV
  have hm0 : 0 < m := by omega
  have HM := Lib.hid (And.intro hm0 (And.intro hm16 (And.intro h2m hd)))
  clear hx hy hxy hm0 hm16 h2m hd
  have n0 := d16_ne 0
  have h0 : Has ((((w.alloc (.cells (d16 x) 37)).alloc (.cells (d16 y) 37)).alloc (.cells (d16 0) 37)).alloc (.cells (tabF 33 fun _ => 0) 95)) w.heap.size 37 (d16 x) := (((Has.new w _ _).alloc _).alloc _).alloc _
  have h1 : Has ((((w.alloc (.cells (d16 x) 37)).alloc (.cells (d16 y) 37)).alloc (.cells (d16 0) 37)).alloc (.cells (tabF 33 fun _ => 0) 95)) (w.heap.size + 1) 37 (d16 y) := ((Has.new' (by simp)).alloc _).alloc _
  have h2 : Has ((((w.alloc (.cells (d16 x) 37)).alloc (.cells (d16 y) 37)).alloc (.cells (d16 0) 37)).alloc (.cells (tabF 33 fun _ => 0) 95)) (w.heap.size + 1 + 1) 37 (d16 0) := (Has.new' (by simp)).alloc _
  have hT : Has ((((w.alloc (.cells (d16 x) 37)).alloc (.cells (d16 y) 37)).alloc (.cells (d16 0) 37)).alloc (.cells (tabF 33 fun _ => 0) 95)) (w.heap.size + 1 + 1 + 1) 95 (tabF 33 fun _ => 0) := Has.new' (by simp)
  have hb : Below w.heap.size w ((((w.alloc (.cells (d16 x) 37)).alloc (.cells (d16 y) 37)).alloc (.cells (d16 0) 37)).alloc (.cells (tabF 33 fun _ => 0) 95)) := ((((Below.refl _ _).alloc (Nat.le_refl _) _).alloc (by simp) _).alloc (by simp <;> omega) _).alloc (by simp <;> omega) _
  have hg := hF.lt
  have hFr : MulFr w ((((w.alloc (.cells (d16 x) 37)).alloc (.cells (d16 y) 37)).alloc (.cells (d16 0) 37)).alloc (.cells (tabF 33 fun _ => 0) 95)) g m := ⟨h2, hF.after hb, hb, hg⟩
  clear hF h2 hb hg
  go_enter Tryd.func30, Tryd.ntmps30
  go_wp2_with fail
  go_loopw [8, 9] (fun vi _ wr => ∃ (i : Nat) (f : Nat → Nat), i ≤ 16 ∧ vi = .int .i64 (i : Int) ∧ Hid (prodIs x y i 0 f) ∧ Has wr w.heap.size 37 (d16 x) ∧ Has wr (w.heap.size + 1) 37 (d16 y) ∧ Has wr (w.heap.size + 1 + 1 + 1) 95 (tabF 33 f) ∧ MulFr w wr g m) (fun vi _ _ => 16 - (intOf vi).toNat)
  case atStart => exact ⟨0, _, by omega, rfl, Lib.hid (prod_start x y), h0, h1, hT, hFr⟩
  case round =>
    clear h0 h1 hT hFr
    obtain ⟨i, f, hi, rfl, HP, h0, h1, hT, hFr⟩ := hrel
    by_cases hit : i < 16
    · have di : (i : Int) < 16 := by omega
      go_wp2_with fail
      go_loopw [9] (fun vk wr => ∃ (k : Nat) (f : Nat → Nat), k ≤ 16 ∧ vk = .int .i64 (k : Int) ∧ Hid (prodIs x y i k f) ∧ Has wr w.heap.size 37 (d16 x) ∧ Has wr (w.heap.size + 1) 37 (d16 y) ∧ Has wr (w.heap.size + 1 + 1 + 1) 95 (tabF 33 f) ∧ MulFr w wr g m) (fun vk _ => 16 - (intOf vk).toNat)
      case atStart => exact ⟨0, f, by omega, rfl, HP, h0, h1, hT, hFr⟩
      case round =>
        clear h0 h1 hT hFr HP
        obtain ⟨k, f, hk, rfl, HP, h0, h1, hT, hFr⟩ := hrel
        by_cases hkt : k < 16
        · have dk : (k : Int) < 16 := by omega
          have s1 : IntKind.i64.wrap ((i : Int) + (k : Int)) = (i : Int) + (k : Int) := IntWalk.i64_in _ (by omega)
          have s2 : 0 ≤ (i : Int) + (k : Int) := by omega
          have s3 : (i : Int) + (k : Int) < 33 := by omega
          have s4 : ((i : Int) + (k : Int)).toNat = i + k := by omega
          have c1 := hT.cellTab (i + k) (by omega)
          have c2 := d16_at h0 i hit
          have c3 := d16_at h1 k hkt
          have HP2 := Lib.hid (prod_step hit hkt HP.out)
          have l1 := prod_lt hit HP.out (i + k)
          obtain ⟨p, hp⟩ : ∃ p, p = hxd x i * hxd y k := ⟨_, rfl⟩
          have l2 : p ≤ 4294836225 := by rw [hp]; exact prdH_le _ _ _ _
          obtain ⟨v, hv⟩ : ∃ v, v = f (i + k) + p := ⟨_, rfl⟩
          have e1 : IntKind.u64.wrap (((hxd x i : Nat) : Int) * ((hxd y k : Nat) : Int)) = (p : Int) := by rw [IntKind.wrap_u64, ← Int.natCast_mul, ← hp]; omega
          have e2 : IntKind.u64.wrap (((f (i + k) : Nat) : Int) + (p : Int)) = (v : Int) := by rw [IntKind.wrap_u64, hv]; omega
          rw [← hp, ← hv] at HP2
          clear hp hv l1 l2 HP
          go_wp2_with fail
          refine region_quiet_tail (fun w' => ∃ n, w' = wr.drewN n) 14 (by kernel_rfl) (by kernel_rfl) ⟨1, rfl⟩ ?_
          simp only [List.take_succ_cons, List.take_zero, List.drop_succ_cons, List.drop_zero]
          repeat (quiet_step (fail))
          refine wpQuiet_nil ?_
          rintro w' ⟨n5, rfl⟩
          replace h0 := h0.drewN n5
          replace h1 := h1.drewN n5
          replace hT := hT.drewN n5
          replace hFr := hFr.drewN n5
          clear c1 c2 c3
          generalize hq : Go.World.drewN _ n5 = wq at *
          clear hq
          have f1 := hT.free (i + k)
          have c1 := hT.cellTab (i + k) (by omega)
          go_wp2_with fail
          go_roundw
          case rel =>
            refine ⟨k + 1, _, by omega, by go_num, HP2, h0.far (by simp <;> omega) _, h1.far (by simp <;> omega) _, ?_, hFr.far (by simp) _⟩
            rw [← tabF_set]
            exact hT.set (i + k) _
          case measure => simp [intOf]; omega
        · have hk16 : k = 16 := by omega
          have dk : ¬ (k : Int) < 16 := by omega
          rw [hk16] at HP
          have HP2 := Lib.hid (prod_row HY.out HP.out)
          clear HP hk16 hkt hk
          go_wp2_with fail
          go_roundw
          case rel => exact ⟨i + 1, f, by omega, by go_num, HP2, h0, h1, hT, hFr⟩
          case measure => simp [intOf]; omega
    · have hi16 : i = 16 := by omega
      have di : ¬ (i : Int) < 16 := by omega
      rw [hi16] at HP
      have HE := Lib.hid (prod_end HX.out HP.out)
      clear hi16 hit hi HP h0 h1
      go_wp2_with fail
      refine (carry_any f (w.heap.size + 1 + 1 + 1) _ hT HE.out.1).mono ?_
      rintro e w1 ⟨rfl, hT1, hO⟩
      replace hFr := hFr.grown hO (by omega)
      rw [HE.out.2, ← HVV.out] at hT1
      clear hO hT HE HVV
      have hB0 : Hid (bndR 0 VV) := Lib.hid (.inl ⟨rfl, HXY.out⟩)
      clear HXY
      go_wp2_with fail
      go_loopw [10, 11, 12, 13, 14] (fun vr _ _ _ _ wr => ∃ r V : Nat, r ≤ 2 ∧ vr = .int .i64 (r : Int) ∧ Hid (V % m = VV % m) ∧ Hid (bndR r V) ∧ Has wr (w.heap.size + 1 + 1 + 1) 95 (d33 V) ∧ MulFr w wr g m) (fun vr _ _ _ _ _ => 5 - (intOf vr).toNat)
      case atStart => exact ⟨0, VV, by omega, rfl, Lib.hid rfl, hB0, hT1, hFr⟩
      case round =>
        clear hT1 hFr hB0
        obtain ⟨r, V, hr, rfl, HE, HBN, hT, hFr⟩ := hrel
        have dr : (r : Int) < 5 := by omega
        have HN := Lib.hid (bnd_next HM.out.1 HM.out.2.1 HM.out.2.2.1 HM.out.2.2.2 HBN.out)
        have hsb : w.heap.size + 1 + 1 + 1 < wr.heap.size := hT.lt
        have hS : Has (wr.alloc (.cells (tabF 33 fun _ => 0) 95)) wr.heap.size 95 (tabF 33 fun _ => 0) := Has.new _ _ _
        replace hT := hT.alloc (.cells (tabF 33 fun _ => 0) 95)
        replace hFr := hFr.alloc (.cells (tabF 33 fun _ => 0) 95)
        clear HBN
        go_wp2_with fail
        generalize hWW : wr.alloc _ = W2 at *
        clear hWW
        generalize wr.heap.size = sb at *
        go_loopw [12] (fun vi wr => ∃ i : Nat, i ≤ 16 ∧ vi = .int .i64 (i : Int) ∧ Has wr sb 95 (tabF 33 (lowF16 V i)) ∧ Has wr (w.heap.size + 1 + 1 + 1) 95 (d33 V) ∧ MulFr w wr g m) (fun vi _ => 16 - (intOf vi).toNat)
        case atStart => exact ⟨0, by omega, rfl, by rw [lowF16_zero]; exact hS, hT, hFr⟩
        case round =>
          clear hS hT hFr
          obtain ⟨i, hi, rfl, hS, hT, hFr⟩ := hrel
          by_cases hit : i < 16
          · have di : (i : Int) < 33 := by omega
            have di2 : (i : Int) < 16 := by omega
            have c1 := d33_at hT i (by omega)
            have c2 := hS.cellTab i (by omega)
            have f2 := hS.free i
            go_wp2_with fail
            go_roundw
            case rel =>
              refine ⟨i + 1, by omega, by go_num, ?_, hT.far (by simp <;> omega) _, hFr.far (by simp <;> omega) _⟩
              rw [← lowF16_set, ← tabF_set]
              exact hS.set i _
            case measure => simp [intOf]; omega
          · have hi16 : i = 16 := by omega
            have di : ¬ (i : Int) < 16 := by omega
            rw [hi16] at hS
            have HFO := Lib.hid (fold_start V m)
            clear hi16 hit hi
            go_wp2_with fail
            go_loopw [13, 14] (fun vk _ wr => ∃ (k : Nat) (f : Nat → Nat), k ≤ 16 ∧ vk = .int .i64 (k : Int) ∧ Hid (foldIs V m k 0 f) ∧ Has wr sb 95 (tabF 33 f) ∧ Has wr (w.heap.size + 1 + 1 + 1) 95 (d33 V) ∧ MulFr w wr g m) (fun vk _ _ => 16 - (intOf vk).toNat)
            case atStart => exact ⟨0, _, by omega, rfl, HFO, hS, hT, hFr⟩
            case round =>
              clear hS hT hFr HFO
              obtain ⟨k, f, hk, rfl, HFO, hS, hT, hFr⟩ := hrel
              by_cases hkt : k < 16
              · have dk : (k : Int) < 16 := by omega
                have s1 : IntKind.i64.wrap ((16 : Int) + (k : Int)) = (16 : Int) + (k : Int) := IntWalk.i64_in _ (by omega)
                have s2 : 0 ≤ (16 : Int) + (k : Int) := by omega
                have s3 : (16 : Int) + (k : Int) < 33 := by omega
                have s4 : ((16 : Int) + (k : Int)).toNat = 16 + k := by omega
                have c1 := d33_at hT (16 + k) (by omega)
                by_cases hz : hxd V (16 + k) = 0
                · have HF2 := Lib.hid (fold_skip hz HFO.out)
                  rw [hz] at c1
                  clear HFO hz
                  go_wp2_with fail
                  go_roundw
                  case rel => exact ⟨k + 1, f, by omega, by go_num, HF2, hS, hT, hFr⟩
                  case measure => simp [intOf]; omega
                · have hz2 : 0 < hxd V (16 + k) := by omega
                  have hz3 : (0 : Int) < ((hxd V (16 + k) : Nat) : Int) := by omega
                  clear hz
                  go_wp2_with fail
                  clear c1
                  go_loopw [14] (fun vi wr => ∃ (i : Nat) (f : Nat → Nat), i ≤ 16 ∧ vi = .int .i64 (i : Int) ∧ Hid (foldIs V m k i f) ∧ Has wr sb 95 (tabF 33 f) ∧ Has wr (w.heap.size + 1 + 1 + 1) 95 (d33 V) ∧ MulFr w wr g m) (fun vi _ => 16 - (intOf vi).toNat)
                  case atStart => exact ⟨0, f, by omega, rfl, HFO, hS, hT, hFr⟩
                  case round =>
                    clear hS hT hFr HFO
                    obtain ⟨i, f, hi, rfl, HFO, hS, hT, hFr⟩ := hrel
                    by_cases hit : i < 16
                    · have di : (i : Int) < 33 := by omega
                      have di2 : (i : Int) < 16 := by omega
                      have c1 := d33_at hT (16 + k) (by omega)
                      have c2 := hS.cellTab i (by omega)
                      have c3 := fld_row_at (show IsField wr g m from hFr.F) k i hkt hit
                      have c4 := c3
                      rw [show 16 + 16 * k + i = 16 + k * 16 + i by omega] at c4
                      have HF2 := Lib.hid (fold_step hit HFO.out)
                      have l1 := fold_lt hkt HFO.out i
                      obtain ⟨p, hp⟩ : ∃ p, p = hxd V (16 + k) * hxd (rowN m k) i := ⟨_, rfl⟩
                      have l2 : p ≤ 4294836225 := by rw [hp]; exact prdH_le _ _ _ _
                      obtain ⟨v, hv⟩ : ∃ v, v = f i + p := ⟨_, rfl⟩
                      have e1 : IntKind.u64.wrap (((hxd V (16 + k) : Nat) : Int) * ((hxd (rowN m k) i : Nat) : Int)) = (p : Int) := by rw [IntKind.wrap_u64, ← Int.natCast_mul, ← hp]; omega
                      have e2 : IntKind.u64.wrap (((f i : Nat) : Int) + (p : Int)) = (v : Int) := by rw [IntKind.wrap_u64, hv]; omega
                      rw [← hp, ← hv] at HF2
                      clear hp hv l1 l2 HFO
                      go_wp2_with fail
                      refine region_quiet_tail (fun w' => ∃ n, w' = wr.drewN n) 18 (by kernel_rfl) (by kernel_rfl) ⟨1, rfl⟩ ?_
                      simp only [List.take_succ_cons, List.take_zero, List.drop_succ_cons, List.drop_zero]
                      repeat (quiet_step (fail))
                      refine wpQuiet_nil ?_
                      rintro w' ⟨n5, rfl⟩
                      replace hS := hS.drewN n5
                      replace hT := hT.drewN n5
                      replace hFr := hFr.drewN n5
                      clear c1 c2 c3 c4
                      generalize hq : Go.World.drewN _ n5 = wq at *
                      clear hq
                      have f1 := hS.free i
                      have c1 := hS.cellTab i (by omega)
                      go_wp2_with fail
                      go_roundw
                      case rel =>
                        refine ⟨i + 1, _, by omega, by go_num, HF2, ?_, hT.far (by simp <;> omega) _, hFr.far (by simp <;> omega) _⟩
                        rw [← tabF_set]
                        exact hS.set i _
                      case measure => simp [intOf]; omega
                    · have hi16 : i = 16 := by omega
                      have di : ¬ (i : Int) < 16 := by omega
                      rw [hi16] at HFO
                      have HF2 := Lib.hid (fold_row (row_lt HM.out.1 HM.out.2.1 k) HFO.out)
                      clear HFO hi16 hit hi
                      go_wp2_with fail
                      go_roundw
                      case rel => exact ⟨k + 1, f, by omega, by go_num, HF2, hS, hT, hFr⟩
                      case measure => simp [intOf]; omega
              · have hk16 : k = 16 := by omega
                have dk : ¬ (k : Int) < 16 := by omega
                rw [hk16] at HFO
                have HFE := Lib.hid (fold_end HFO.out)
                clear hk16 hkt hk HFO
                go_wp2_with fail
                refine (carry_any f sb _ hS HFE.out.1).mono ?_
                rintro e w3 ⟨rfl, hS2, hO⟩
                have hT2 := hT.grownF hO (by omega)
                have hFr2 := hFr.grown hO (by omega)
                rw [HFE.out.2] at hS2
                clear hO hT hFr hS HFE
                obtain ⟨U, hU⟩ : ∃ U, U = foldN V m 16 := ⟨_, rfl⟩
                rw [← hU] at hS2 HN
                have HE2 : Hid (U % m = VV % m) := Lib.hid (HN.out.1.trans HE.out)
                have HN2 := Lib.hid HN.out.2
                clear HN HE hU
                have hT3 := hT2.setRow (d33 U)
                have hFr3 := hFr2.row (l := w.heap.size + 1 + 1 + 1) (by omega) (d33 U)
                have c16 := d33_at hT3 16 (by omega)
                have c17 := d33_at hT3 17 (by omega)
                by_cases h16 : hxd U 16 = 0
                · by_cases h17 : hxd U 17 = 0
                  · have hUl := fold_done HN2.out.1 h16 h17
                    have hlow := fun W => low_any U m W (Nat.lt_trans hUl HM.out.2.2.1) hUl HM.out.2.1
                    rw [HE2.out] at hlow
                    have HLOW := Lib.hid hlow
                    rw [h16] at c16
                    rw [h17] at c17
                    clear hUl hlow h16 h17 HN2 HE2
                    go_wp2_with (first | refine wpList_load_has 95 _ rfl _ rfl rfl 95 _ hS2 _ Tryd.underlying95 rfl (info33 _) ?_ | refine wpList_store_row rfl 95 _ _ rfl (w.heap.size + 1 + 1 + 1) _ rfl rfl 95 _ hT2 (info33 _) (by simp only [d33_size]) (tab_oneCell _ _ fun _ => rfl) ?_)
                    have hob : w.heap.size + 1 + 1 + 1 < w3.heap.size := hT2.lt
                    clear c16 c17 hS2 hT2 hFr2
                    have hQ : Has ((w3.setRow (w.heap.size + 1 + 1 + 1) (d33 U)).alloc (.cells (d16 0) 37)) w3.heap.size 37 (d16 0) := Has.new' (by simp)
                    replace hT3 := hT3.alloc (.cells (d16 0) 37)
                    replace hFr3 := hFr3.alloc (.cells (d16 0) 37)
                    generalize hW5 : (w3.setRow _ _).alloc _ = W5 at *
                    clear hW5
                    generalize w3.heap.size = ob at *
                    go_loopw [16] (fun vi wr => ∃ i : Nat, i ≤ 16 ∧ vi = .int .i64 (i : Int) ∧ Has wr ob 37 (d16 (U % 65536 ^ i)) ∧ Has wr (w.heap.size + 1 + 1 + 1) 95 (d33 U) ∧ MulFr w wr g m) (fun vi _ => 16 - (intOf vi).toNat)
                    case atStart => exact ⟨0, by omega, rfl, by rw [Nat.pow_zero, Nat.mod_one]; exact hQ, hT3, hFr3⟩
                    case round =>
                      clear hQ hT3 hFr3
                      obtain ⟨i, hi, rfl, hQ, hT, hFr⟩ := hrel
                      by_cases hit : i < 16
                      · have di : (i : Int) < 33 := by omega
                        have di2 : (i : Int) < 16 := by omega
                        have c1 := d33_at hT i (by omega)
                        have c2 := hQ.cellTab i (by omega)
                        have f2 := hQ.free i
                        go_wp2_with fail
                        go_roundw
                        case rel =>
                          refine ⟨i + 1, by omega, by go_num, ?_, hT.far (by simp <;> omega) _, hFr.far (by simp <;> omega) _⟩
                          rw [← d16_set hit]
                          exact hQ.set i _
                        case measure => simp [intOf]; omega
                      · have hi16 : i = 16 := by omega
                        have di : ¬ (i : Int) < 16 := by omega
                        rw [hi16, d16_end] at hQ
                        clear hi16 hit hi hT
                        have hF := hFr.F
                        have hR := hFr.R
                        have hb := hFr.b
                        clear hFr
                        go_wp2_with fail
                        refine region_quiet_tail (Below wr.heap.size wr) 6 (by kernel_rfl) (by kernel_rfl) (below_drewN (Below.refl _ _) 1) ?_
                        simp only [List.take_succ_cons, List.take_zero, List.drop_succ_cons, List.drop_zero]
                        refine wpQ_has 37 _ rfl _ rfl rfl 37 _ (fun w' hC => hQ.after hC) _ Tryd.underlying37 rfl (info16 _) ?_
                        simp only [Act.put, List.setIfInBounds_toArray, List.set_cons_zero, List.set_cons_succ]
                        refine wpQ_move _ rfl rfl (.pointer (some ⟨g, 0, none⟩)) rfl ?_
                        simp only [Act.put, List.setIfInBounds_toArray, List.set_cons_zero, List.set_cons_succ]
                        refine wpQ_val rfl (.pointer (some ⟨g, 0, none⟩)) (fun w' _ => by go_simp) ?_
                        simp only [Act.put, List.setIfInBounds_toArray, List.set_cons_zero, List.set_cons_succ]
                        refine wpQ_val rfl (.pointer (some ⟨g, 0, none⟩)) (fun w' _ => by go_simp) ?_
                        simp only [Act.put, List.setIfInBounds_toArray, List.set_cons_zero, List.set_cons_succ]
                        refine wpQ_load_hex rfl _ rfl g 0 rfl m (fun w' hC => fld_mod (hF.after hC)) ?_
                        simp only [Act.put, List.setIfInBounds_toArray, List.set_cons_zero, List.set_cons_succ]
                        refine wpQ_fn 58 _ _ rfl rfl #[.agg (d16 (U)), .agg (d16 (m))] rfl (fun _ => by go_simp) (.agg (d16 (VV % m))) (fun w' hC => (HLOW.out w').mono fun e w'' ⟨he, hb⟩ => ⟨he, below_class hC hb⟩) ?_
                        simp only [Act.put, List.setIfInBounds_toArray, List.set_cons_zero, List.set_cons_succ]
                        refine wpQuiet_nil ?_
                        intro w6 hC
                        replace hR := hR.after hC
                        replace hb := below_trans hb hC
                        clear hC hQ hF
                        go_wp2_with (first | refine wpList_store_row rfl 37 _ _ rfl (w.heap.size + 1 + 1) _ rfl rfl 37 _ hR (info16 _) (by simp only [d16_size]) (tab_oneCell _ _ fun _ => rfl) ?_)
                        exact bodyPost_ret (v := .agg (d16 (VV % m))) (results_cell_row rfl _ _ (w.heap.size + 1 + 1) 37 _ _ _ rfl (hR.setRow _) Tryd.underlying37 rfl (info16 _)) rfl ⟨rfl, below_setRow hb (by omega) _⟩
                  · have hBN : r + 1 ≤ 2 ∧ bndR (r + 1) U := HN2.out.2.resolve_left (fun h => h17 (dg_top (by decide) h (by omega)))
                    have HBN := Lib.hid hBN.2
                    have hr2 := hBN.1
                    have hneI : ¬ ((hxd U 17 : Nat) : Int) = 0 := by omega
                    have hbI : (((hxd U 17 : Nat) : Int) == 0) = false := by simpa using h17
                    rw [h16] at c16
                    clear HN2 hBN h16
                    go_wp2_with (first | refine wpList_load_has 95 _ rfl _ rfl rfl 95 _ hS2 _ Tryd.underlying95 rfl (info33 _) ?_ | refine wpList_store_row rfl 95 _ _ rfl (w.heap.size + 1 + 1 + 1) _ rfl rfl 95 _ hT2 (info33 _) (by simp only [d33_size]) (tab_oneCell _ _ fun _ => rfl) ?_)
                    clear c16 c17 hS2 hT2 hFr2
                    go_roundw
                    case rel => exact ⟨r + 1, U, hr2, by go_num, HE2, HBN, hT3, hFr3⟩
                    case measure => simp [intOf]; omega
                · have hBN : r + 1 ≤ 2 ∧ bndR (r + 1) U := HN2.out.2.resolve_left (fun h => h16 (dg_top (by decide) h (by omega)))
                  have HBN := Lib.hid hBN.2
                  have hr2 := hBN.1
                  have hneI : ¬ ((hxd U 16 : Nat) : Int) = 0 := by omega
                  have hbI : (((hxd U 16 : Nat) : Int) == 0) = false := by simpa using h16
                  clear HN2 hBN
                  go_wp2_with (first | refine wpList_load_has 95 _ rfl _ rfl rfl 95 _ hS2 _ Tryd.underlying95 rfl (info33 _) ?_ | refine wpList_store_row rfl 95 _ _ rfl (w.heap.size + 1 + 1 + 1) _ rfl rfl 95 _ hT2 (info33 _) (by simp only [d33_size]) (tab_oneCell _ _ fun _ => rfl) ?_)
                  clear c16 c17 hS2 hT2 hFr2
                  go_roundw
                  case rel => exact ⟨r + 1, U, hr2, by go_num, HE2, HBN, hT3, hFr3⟩
                  case measure => simp [intOf]; omega
end Go.Proofs.YtflkhlhpifmocaaDoor
namespace Go.Proofs.YtflkhlhpifmocaaDoor
open Go.RowKit

/-- a modulus that the folding serves -/
def FldOK (m : Nat) : Prop := 0 < m ∧ m < 65536 ^ 16 ∧ 65536 ^ 16 < 2 * m ∧ 65536 ^ 16 - m < 2 ^ 225 ∧ 2 ≤ hxd m 0
theorem fmul_c (x y m g : Nat) (w : World) (hF : IsField w g m) (hm : FldOK m) (hx : x < m) (hy : y < m) :
    Calls Tryd.prog 30 #[.pointer (some ⟨g, 0, none⟩), .agg (d16 x), .agg (d16 y)] w fun e w' => e = .returned (.agg (d16 (x * y % m))) ∧ Below w.heap.size w w' := by
  obtain ⟨h0, h1, h2, h3, _⟩ := hm
  refine fmul_any x y m g w hF (by omega) (by omega) ?_ h1 h2 h3
  have e : (65536 : Nat) ^ 32 = 65536 ^ 16 * 65536 ^ 16 := by decide +kernel
  rw [e]
  exact Nat.mul_lt_mul'' (by omega) (by omega)
attribute [local go_sem] zero16 one16
set_option maxRecDepth 100000 in
set_option maxHeartbeats 2000000 in
theorem fadd_c (x y m g : Nat) (w : World) (hF : IsField w g m) (hm : FldOK m) (hx : x < m) (hy : y < m) :
    Calls Tryd.prog 34 #[.pointer (some ⟨g, 0, none⟩), .agg (d16 x), .agg (d16 y)] w fun e w' => e = .returned (.agg (d16 ((x + y) % m))) ∧ Below w.heap.size w w' := by
  have cA := fun W => sum3_any x y m W hx hy hm.2.1
  clear hm hx hy
  generalize (x + y) % m = r at *
  have n0 := d16_ne 0
  have hX : Has (((w.alloc (.cells (d16 x) 37)).alloc (.cells (d16 y) 37)).alloc (.cells (d16 0) 37)) (w.heap.size) 37 (d16 x) := ((Has.new w _ _).alloc _).alloc _
  have hY : Has (((w.alloc (.cells (d16 x) 37)).alloc (.cells (d16 y) 37)).alloc (.cells (d16 0) 37)) (w.heap.size + 1) 37 (d16 y) := (Has.new' (by simp)).alloc _
  have hR : Has (((w.alloc (.cells (d16 x) 37)).alloc (.cells (d16 y) 37)).alloc (.cells (d16 0) 37)) (w.heap.size + 1 + 1) 37 (d16 0) := Has.new' (by simp)
  have hb0 : Below w.heap.size w (((w.alloc (.cells (d16 x) 37)).alloc (.cells (d16 y) 37)).alloc (.cells (d16 0) 37)) := (((Below.refl _ _).alloc (Nat.le_refl _) _).alloc (by simp <;> omega) _).alloc (by simp <;> omega) _
  replace hF := hF.after hb0
  go_enter Tryd.func34, Tryd.ntmps34
  go_wp2_with fail
  generalize (((w.alloc _).alloc _).alloc _) = W at *
  refine region_quiet_tail (Below W.heap.size W) 7 (by kernel_rfl) (by kernel_rfl) (below_drewN (Below.refl _ _) 1) ?_
  simp only [List.take_succ_cons, List.take_zero, List.drop_succ_cons, List.drop_zero]
  refine wpQ_has 37 _ rfl _ rfl rfl 37 _ (fun w' hC => hX.after hC) _ Tryd.underlying37 rfl (info16 _) ?_
  simp only [Act.put, List.setIfInBounds_toArray, List.set_cons_zero, List.set_cons_succ]
  refine wpQ_has 37 _ rfl _ rfl rfl 37 _ (fun w' hC => hY.after hC) _ Tryd.underlying37 rfl (info16 _) ?_
  simp only [Act.put, List.setIfInBounds_toArray, List.set_cons_zero, List.set_cons_succ]
  refine wpQ_move _ rfl rfl (.pointer (some ⟨g, 0, none⟩)) rfl ?_
  simp only [Act.put, List.setIfInBounds_toArray, List.set_cons_zero, List.set_cons_succ]
  refine wpQ_val rfl (.pointer (some ⟨g, 0, none⟩)) (fun w' _ => by go_simp) ?_
  simp only [Act.put, List.setIfInBounds_toArray, List.set_cons_zero, List.set_cons_succ]
  refine wpQ_val rfl (.pointer (some ⟨g, 0, none⟩)) (fun w' _ => by go_simp) ?_
  simp only [Act.put, List.setIfInBounds_toArray, List.set_cons_zero, List.set_cons_succ]
  refine wpQ_load_hex rfl _ rfl g 0 rfl m (fun w' hC => fld_mod (show Has w' g 61 (fldC m 16) from hF.after hC)) ?_
  simp only [Act.put, List.setIfInBounds_toArray, List.set_cons_zero, List.set_cons_succ]
  refine wpQ_fn 50 _ _ rfl rfl #[.agg (d16 (x)), .agg (d16 (y)), .agg (d16 (m))] rfl (fun _ => by go_simp) (.agg (d16 (r))) (fun w' hC => (cA w').mono fun e w'' ⟨he, hb⟩ => ⟨he, below_class hC hb⟩) ?_
  simp only [Act.put, List.setIfInBounds_toArray, List.set_cons_zero, List.set_cons_succ]
  refine wpQuiet_nil ?_
  intro w1 hC
  replace hR := hR.after hC
  replace hb0 := below_trans hb0 hC
  clear hC hF cA hX hY
  go_wp2_with (first | refine wpList_store_row rfl 37 _ _ rfl (w.heap.size + 1 + 1) _ rfl rfl 37 _ hR (info16 _) (by simp only [d16_size]) (tab_oneCell _ _ fun _ => rfl) ?_)
  exact bodyPost_ret (v := .agg (d16 r)) (results_cell_row rfl _ _ (w.heap.size + 1 + 1) 37 _ _ _ rfl (hR.setRow _) Tryd.underlying37 rfl (info16 _)) rfl ⟨rfl, below_setRow hb0 (by omega) _⟩
theorem mod_neg_add {x y m : Nat} (_hy : y < m) : (x + (m - y) % m) % m = (x + (m - y)) % m := Nat.add_mod_mod _ _ _
set_option maxRecDepth 100000 in
set_option maxHeartbeats 2000000 in
theorem fsub_c (x y m g : Nat) (w : World) (hF : IsField w g m) (hm : FldOK m) (hx : x < m) (hy : y < m) :
    Calls Tryd.prog 55 #[.pointer (some ⟨g, 0, none⟩), .agg (d16 x), .agg (d16 y)] w fun e w' => e = .returned (.agg (d16 ((x + (m - y)) % m))) ∧ Below w.heap.size w w' := by
  have hlm : (m - y) % m < m := Nat.mod_lt _ hm.1
  have cN := fun W h => neg_any y m g W h (Nat.le_of_lt hy) hm.2.1
  have cL := fun W => low_any (m - y) m W (by omega) (by have := hm.2.1; omega) hm.2.1
  have cA := fun W => sum3_any x ((m - y) % m) m W hx hlm hm.2.1
  rw [mod_neg_add hy] at cA
  clear hm hx hy hlm
  generalize (x + (m - y)) % m = r at *
  generalize (m - y) % m = l at *
  generalize m - y = n at *
  have n0 := d16_ne 0
  have hX : Has (((w.alloc (.cells (d16 x) 37)).alloc (.cells (d16 y) 37)).alloc (.cells (d16 0) 37)) (w.heap.size) 37 (d16 x) := ((Has.new w _ _).alloc _).alloc _
  have hY : Has (((w.alloc (.cells (d16 x) 37)).alloc (.cells (d16 y) 37)).alloc (.cells (d16 0) 37)) (w.heap.size + 1) 37 (d16 y) := (Has.new' (by simp)).alloc _
  have hR : Has (((w.alloc (.cells (d16 x) 37)).alloc (.cells (d16 y) 37)).alloc (.cells (d16 0) 37)) (w.heap.size + 1 + 1) 37 (d16 0) := Has.new' (by simp)
  have hb0 : Below w.heap.size w (((w.alloc (.cells (d16 x) 37)).alloc (.cells (d16 y) 37)).alloc (.cells (d16 0) 37)) := (((Below.refl _ _).alloc (Nat.le_refl _) _).alloc (by simp <;> omega) _).alloc (by simp <;> omega) _
  replace hF := hF.after hb0
  go_enter Tryd.func55, Tryd.ntmps55
  go_wp2_with fail
  generalize (((w.alloc _).alloc _).alloc _) = W at *
  refine region_quiet_tail (Below W.heap.size W) 14 (by kernel_rfl) (by kernel_rfl) (below_drewN (Below.refl _ _) 1) ?_
  simp only [List.take_succ_cons, List.take_zero, List.drop_succ_cons, List.drop_zero]
  refine wpQ_has 37 _ rfl _ rfl rfl 37 _ (fun w' hC => hX.after hC) _ Tryd.underlying37 rfl (info16 _) ?_
  simp only [Act.put, List.setIfInBounds_toArray, List.set_cons_zero, List.set_cons_succ]
  refine wpQ_move _ rfl rfl (.pointer (some ⟨g, 0, none⟩)) rfl ?_
  simp only [Act.put, List.setIfInBounds_toArray, List.set_cons_zero, List.set_cons_succ]
  refine wpQ_has 37 _ rfl _ rfl rfl 37 _ (fun w' hC => hY.after hC) _ Tryd.underlying37 rfl (info16 _) ?_
  simp only [Act.put, List.setIfInBounds_toArray, List.set_cons_zero, List.set_cons_succ]
  refine wpQ_fn 82 _ _ rfl rfl #[.pointer (some ⟨g, 0, none⟩), .agg (d16 (y))] rfl (fun _ => by go_simp) (.agg (d16 (n))) (fun w' hC => (cN w' (hF.after hC)).mono fun e w'' ⟨he, hb⟩ => ⟨he, below_class hC hb⟩) ?_
  simp only [Act.put, List.setIfInBounds_toArray, List.set_cons_zero, List.set_cons_succ]
  refine wpQ_move _ rfl rfl (.pointer (some ⟨g, 0, none⟩)) rfl ?_
  simp only [Act.put, List.setIfInBounds_toArray, List.set_cons_zero, List.set_cons_succ]
  refine wpQ_val rfl (.pointer (some ⟨g, 0, none⟩)) (fun w' _ => by go_simp) ?_
  simp only [Act.put, List.setIfInBounds_toArray, List.set_cons_zero, List.set_cons_succ]
  refine wpQ_val rfl (.pointer (some ⟨g, 0, none⟩)) (fun w' _ => by go_simp) ?_
  simp only [Act.put, List.setIfInBounds_toArray, List.set_cons_zero, List.set_cons_succ]
  refine wpQ_load_hex rfl _ rfl g 0 rfl m (fun w' hC => fld_mod (show Has w' g 61 (fldC m 16) from hF.after hC)) ?_
  simp only [Act.put, List.setIfInBounds_toArray, List.set_cons_zero, List.set_cons_succ]
  refine wpQ_fn 58 _ _ rfl rfl #[.agg (d16 (n)), .agg (d16 (m))] rfl (fun _ => by go_simp) (.agg (d16 (l))) (fun w' hC => (cL w').mono fun e w'' ⟨he, hb⟩ => ⟨he, below_class hC hb⟩) ?_
  simp only [Act.put, List.setIfInBounds_toArray, List.set_cons_zero, List.set_cons_succ]
  refine wpQ_move _ rfl rfl (.pointer (some ⟨g, 0, none⟩)) rfl ?_
  simp only [Act.put, List.setIfInBounds_toArray, List.set_cons_zero, List.set_cons_succ]
  refine wpQ_val rfl (.pointer (some ⟨g, 0, none⟩)) (fun w' _ => by go_simp) ?_
  simp only [Act.put, List.setIfInBounds_toArray, List.set_cons_zero, List.set_cons_succ]
  refine wpQ_val rfl (.pointer (some ⟨g, 0, none⟩)) (fun w' _ => by go_simp) ?_
  simp only [Act.put, List.setIfInBounds_toArray, List.set_cons_zero, List.set_cons_succ]
  refine wpQ_load_hex rfl _ rfl g 0 rfl m (fun w' hC => fld_mod (show Has w' g 61 (fldC m 16) from hF.after hC)) ?_
  simp only [Act.put, List.setIfInBounds_toArray, List.set_cons_zero, List.set_cons_succ]
  refine wpQ_fn 50 _ _ rfl rfl #[.agg (d16 (x)), .agg (d16 (l)), .agg (d16 (m))] rfl (fun _ => by go_simp) (.agg (d16 (r))) (fun w' hC => (cA w').mono fun e w'' ⟨he, hb⟩ => ⟨he, below_class hC hb⟩) ?_
  simp only [Act.put, List.setIfInBounds_toArray, List.set_cons_zero, List.set_cons_succ]
  refine wpQuiet_nil ?_
  intro w1 hC
  replace hR := hR.after hC
  replace hb0 := below_trans hb0 hC
  clear hC hF cA cL cN hX hY
  go_wp2_with (first | refine wpList_store_row rfl 37 _ _ rfl (w.heap.size + 1 + 1) _ rfl rfl 37 _ hR (info16 _) (by simp only [d16_size]) (tab_oneCell _ _ fun _ => rfl) ?_)
  exact bodyPost_ret (v := .agg (d16 r)) (results_cell_row rfl _ _ (w.heap.size + 1 + 1) 37 _ _ _ rfl (hR.setRow _) Tryd.underlying37 rfl (info16 _)) rfl ⟨rfl, below_setRow hb0 (by omega) _⟩
end Go.Proofs.YtflkhlhpifmocaaDoor
namespace Go.Proofs.YtflkhlhpifmocaaDoor
open Go.RowKit

/-- a power, k of whose exponent's bits are still to come -/
def powI (m x e k : Nat) : Nat := x ^ (e / 2 ^ k) % m
theorem powI_sq (m x e j : Nat) : powI m x e (j + 1) * powI m x e (j + 1) % m = x ^ (2 * (e / 2 ^ (j + 1))) % m := by
  unfold powI
  generalize e / 2 ^ (j + 1) = q
  rw [← Nat.mul_mod, Nat.two_mul, Nat.pow_add]
theorem powI_bit (e j : Nat) : e / 2 ^ j = 2 * (e / 2 ^ (j + 1)) + bitA e j := by
  unfold bitA
  rw [Nat.pow_succ, ← Nat.div_div_eq_div_mul]
  omega
theorem powI_even {m x e j : Nat} (h : bitA e j = 0) : powI m x e (j + 1) * powI m x e (j + 1) % m = powI m x e j := by
  rw [powI_sq]
  unfold powI
  rw [powI_bit e j, h]
  rfl
theorem powI_odd {m x e j : Nat} (h : bitA e j = 1) : (powI m x e (j + 1) * powI m x e (j + 1) % m) * x % m = powI m x e j := by
  rw [powI_sq]
  unfold powI
  rw [powI_bit e j, h]
  generalize e / 2 ^ (j + 1) = q
  rw [Nat.pow_succ, Nat.mod_mul_mod]
theorem powI_start {m x e : Nat} (hm : 1 < m) (he : e < 65536 ^ 16) : powI m x e 256 = 1 := by
  unfold powI
  have h : (65536 : Nat) ^ 16 = 2 ^ 256 := by decide +kernel
  rw [Nat.div_eq_of_lt (by omega), Nat.pow_zero, Nat.mod_eq_of_lt hm]
theorem powI_end (m x e : Nat) : powI m x e 0 = x ^ e % m := by
  unfold powI
  rw [Nat.pow_zero, Nat.div_one]
theorem less2 {m : Nat} (h : 2 ≤ hxd m 0) : (d16 m).setIfInBounds 0 (.int .u64 ((hxd m 0 - 2 : Nat) : Int)) = d16 (m - 2) := by
  have e0 : hxd m 0 = m % 65536 := by unfold hxd dg; rw [Nat.pow_zero, Nat.div_one]
  unfold d16
  rw [tab_set]
  refine tab_ext _ _ _ fun j _ => ?_
  unfold dgs
  by_cases hj : j = 0
  · subst hj
    rw [if_pos rfl]
    congr 2
    rw [e0] at h ⊢
    unfold dg
    rw [Nat.pow_zero, Nat.div_one]
    omega
  · rw [if_neg hj]
    congr 2
    obtain ⟨i, rfl⟩ : ∃ i, j = i + 1 := ⟨j - 1, by omega⟩
    unfold dg
    rw [Nat.pow_succ, Nat.mul_comm, ← Nat.div_div_eq_div_mul, ← Nat.div_div_eq_div_mul]
    congr 2
    omega
theorem bitA_01 (e j : Nat) : bitA e j = 0 ∨ bitA e j = 1 := by have := bitA_le e j; omega
attribute [local go_sem] zero16 one16
set_option maxRecDepth 100000 in
set_option maxHeartbeats 2000000 in
theorem finv_e (x m e d g : Nat) (w : World) (hF : IsField w g m) (hm : FldOK m) (hx : x < m) (h1m : 1 < m) (he : e < 65536 ^ 16) (hd0 : IntKind.u64.wrap (((hxd m 0 : Nat) : Int) - 2) = ((d : Nat) : Int)) (hL2 : (d16 m).setIfInBounds 0 (.int .u64 ((d : Nat) : Int)) = d16 e) :
    Calls Tryd.prog 25 #[.pointer (some ⟨g, 0, none⟩), .agg (d16 x)] w fun z w' => z = .returned (.agg (d16 (powI m x e 0))) ∧ Below w.heap.size w w' := by
  have m0 : 0 < m := hm.1
  have hlt : ∀ k, powI m x e k < m := fun k => Nat.mod_lt _ m0
  have HSQ := Lib.hid (fun j W h => fmul_c (powI m x e (j + 1)) (powI m x e (j + 1)) m g W h hm (hlt _) (hlt _))
  have HML := Lib.hid (fun j W h => fmul_c (powI m x e (j + 1) * powI m x e (j + 1) % m) x m g W h hm (Nat.mod_lt _ m0) hx)
  have HEV := Lib.hid (fun j h => powI_even (m := m) (x := x) (e := e) (j := j) h)
  have HOD := Lib.hid (fun j h => powI_odd (m := m) (x := x) (e := e) (j := j) h)
  have hr := powI_start (x := x) h1m he
  have HR := Lib.hid hr
  have HL2 := Lib.hid hL2
  clear hlt hm hx m0 h1m he hr hL2
  generalize powI m x e = F at *
  have n0 := d16_ne 0
  have hX : Has ((w.alloc (.cells (d16 x) 37)).alloc (.cells (d16 0) 37)) (w.heap.size) 37 (d16 x) := (Has.new w _ _).alloc _
  have hR : Has ((w.alloc (.cells (d16 x) 37)).alloc (.cells (d16 0) 37)) (w.heap.size + 1) 37 (d16 0) := Has.new' (by simp)
  have hb0 : Below w.heap.size w ((w.alloc (.cells (d16 x) 37)).alloc (.cells (d16 0) 37)) := ((Below.refl _ _).alloc (Nat.le_refl _) _).alloc (by simp <;> omega) _
  have hg := hF.lt
  replace hF := hF.after hb0
  have hP1 := put_at ((w.alloc (.cells (d16 x) 37)).alloc (.cells (d16 0) 37)) 37 (d16 0) (d16 1) (w.heap.size + 1 + 1) (by simp)
  have hP2 := put_at ((((w.alloc (.cells (d16 x) 37)).alloc (.cells (d16 0) 37)).alloc (.cells (d16 0) 37)).setRow (w.heap.size + 1 + 1) (d16 1)) 37 (d16 0) (d16 m) (w.heap.size + 1 + 1 + 1) (by simp)
  replace hX := (hX.after hP1.2).after hP2.2
  replace hR := (hR.after hP1.2).after hP2.2
  have hF1 := hF.after hP1.2
  replace hF := (hF.after hP1.2).after hP2.2
  replace hb0 := below_trans (below_trans hb0 hP1.2) hP2.2
  have hQ := hP1.1.after hP2.2
  have hE := hP2.1
  have c0 := d16_at hE 0 (by omega)
  have f0 := hE.free 0
  clear hP1 hP2
  go_enter Tryd.func25, Tryd.ntmps25
  go_wp2_with (first | refine wpList_store_row rfl 37 _ _ rfl (w.heap.size + 1 + 1) _ rfl rfl 37 (d16 0) (Has.new' (by simp)) (info16 _) (by simp only [d16_size]) (tab_oneCell _ _ fun _ => rfl) ?_ | refine wpList_load_hex rfl _ rfl g 0 rfl m (fld_mod hF1) ?_ | (refine wpList_store_row rfl 37 _ _ rfl (w.heap.size + 1 + 1 + 1) _ rfl rfl 37 (d16 0) (Has.new' (by simp)) (info16 _) (by simp only [d16_size]) (tab_oneCell _ _ fun _ => rfl) ?_; generalize hWW : World.setRow _ (w.heap.size + 1 + 1 + 1) _ = W at *; clear hWW))
  have hE2 := hE.set 0 (.int .u64 ((d : Nat) : Int))
  rw [HL2.out] at hE2
  replace hX := hX.far (a := ⟨w.heap.size + 1 + 1 + 1, 0, none⟩) (by simp <;> omega) (.int .u64 ((d : Nat) : Int))
  replace hR := hR.far (a := ⟨w.heap.size + 1 + 1 + 1, 0, none⟩) (by simp <;> omega) (.int .u64 ((d : Nat) : Int))
  replace hQ := hQ.far (a := ⟨w.heap.size + 1 + 1 + 1, 0, none⟩) (by simp <;> omega) (.int .u64 ((d : Nat) : Int))
  replace hF := Has.far hF (a := ⟨w.heap.size + 1 + 1 + 1, 0, none⟩) (by simp <;> omega) (.int .u64 ((d : Nat) : Int))
  have hb1 : Below w.heap.size w (W.setCell ⟨w.heap.size + 1 + 1 + 1, 0, none⟩ (.int .u64 ((d : Nat) : Int))) := hb0.setCell (by simp <;> omega) _
  replace hb0 := hb1
  clear hb1
  clear c0 f0 hE hF1 hd0
  generalize W.setCell _ _ = W2 at *
  go_loopw [7] (fun vi wr => ∃ k : Nat, k ≤ 256 ∧ vi = .int .i64 ((k : Int) - 1) ∧ Has wr w.heap.size 37 (d16 x) ∧ Has wr (w.heap.size + 1) 37 (d16 0) ∧ Has wr (w.heap.size + 1 + 1) 37 (d16 (F k)) ∧ Has wr (w.heap.size + 1 + 1 + 1) 37 (d16 e) ∧ IsField wr g m ∧ g < w.heap.size ∧ Below w.heap.size w wr) (fun vi _ => (intOf vi + 1).toNat)
  case atStart => exact ⟨256, by omega, rfl, hX, hR, by rw [HR.out]; exact hQ, hE2, hF, hg, hb0⟩
  case round =>
    clear hX hR hQ hE2 hF hb0 hg
    obtain ⟨k, hk, rfl, hX, hR, hQ, hE, hF, hg, hb⟩ := hrel
    by_cases hlt : 0 < k
    · obtain ⟨j, rfl⟩ : ∃ j, k = j + 1 := ⟨k - 1, by omega⟩
      have ek : ((j + 1 : Nat) : Int) - 1 = (j : Int) := by omega
      rw [ek]
      clear ek
      have dk0 : (0 : Int) ≤ (j : Int) := by omega
      have cE := HEV.out j
      have cO := HOD.out j
      have cM := fun W h => HML.out j W h
      generalize hsq : F (j + 1) * F (j + 1) % m = y at *
      have cQ := fun W h => HSQ.out j W h
      rw [hsq] at cQ
      clear hsq
      go_wp2_with (first | refine wpList_load_has 37 _ rfl _ rfl rfl 37 _ hQ _ Tryd.underlying37 rfl (info16 _) ?_)
      refine (cQ _ hF).mono ?_
      rintro z w2 ⟨rfl, hx⟩
      replace hX := hX.after hx
      replace hR := hR.after hx
      replace hE := hE.after hx
      replace hF := hF.after hx
      replace hQ := hQ.after hx
      replace hb := below_trans hb hx
      have hQ' := hQ.setRow (d16 y)
      replace hX := hX.farRow (k := w.heap.size + 1 + 1) (by omega) (d16 y)
      replace hR := hR.farRow (k := w.heap.size + 1 + 1) (by omega) (d16 y)
      replace hE := hE.farRow (k := w.heap.size + 1 + 1) (by omega) (d16 y)
      replace hF := Has.farRow hF (k := w.heap.size + 1 + 1) (by omega) (d16 y)
      replace hb := below_setRow hb (g := w.heap.size + 1 + 1) (by omega) (d16 y)
      obtain ⟨ja, hja⟩ : ∃ a, a = j / 16 := ⟨_, rfl⟩
      obtain ⟨jb, hjb⟩ : ∃ b, b = j % 16 := ⟨_, rfl⟩
      have q1 : (j : Int).tdiv 16 = (ja : Int) := by rw [Int.tdiv_eq_ediv_of_nonneg (by omega)]; omega
      have q2 : (j : Int) / 16 = (ja : Int) := by omega
      have q3 : (j : Int).tmod 16 = (jb : Int) := by rw [Int.tmod_eq_emod_of_nonneg (by omega)]; omega
      have q4 : (j : Int) % 16 = (jb : Int) := by omega
      have q5 : (ja : Int) < 16 := by omega
      have q6 : (jb : Int) < 64 := by omega
      have q7 : min jb 64 = jb := Nat.min_eq_left (by omega)
      have q8 : IntKind.i64.wrap (ja : Int) = (ja : Int) := IntWalk.i64_in _ (by omega)
      have c1 := d16_at hE ja (by omega)
      have hbit := bit_hex e j
      rw [← hja, ← hjb] at hbit
      obtain ⟨s, hs⟩ : ∃ s : Int, s = ((hxd e ja : Nat) : Int) / 2 ^ jb := ⟨_, rfl⟩
      have hs0 : 0 ≤ s := by rw [hs]; exact Int.ediv_nonneg (by omega) (Int.le_of_lt (Int.pow_pos (by decide)))
      have q9 : ((hxd e ja : Nat) : Int) / 2 ^ jb = s := hs.symm
      rw [← hs] at hbit
      rcases bitA_01 e j with hbt | hbt
      · rw [hbt] at hbit
        have b1 : s % 2 = 0 := hbit
        have b2 : s.tmod 2 = 0 := by rw [Int.tmod_eq_emod_of_nonneg hs0]; exact b1
        have HF := Lib.hid (cE hbt)
        clear cE cO hbt hbit hja hjb hs cM cQ hx
        go_wp2_with (first | refine wpList_store_row rfl 37 _ _ rfl (w.heap.size + 1 + 1) _ rfl rfl 37 _ hQ (info16 _) (by simp only [d16_size]) (tab_oneCell _ _ fun _ => rfl) ?_)
        go_roundw
        case rel => exact ⟨j, by omega, by go_num, hX, hR, by rw [← HF.out]; exact hQ', hE, hF, hg, hb⟩
        case measure => simp [intOf] <;> omega
      · rw [hbt] at hbit
        have b1 : s % 2 = 1 := hbit
        have b2 : s.tmod 2 = 1 := by rw [Int.tmod_eq_emod_of_nonneg hs0]; exact b1
        have HF := Lib.hid (cO hbt)
        clear cE cO hbt hbit hja hjb hs cQ hx
        generalize y * x % m = y2 at *
        go_wp2_with (first | refine wpList_store_row rfl 37 _ _ rfl (w.heap.size + 1 + 1) _ rfl rfl 37 _ hQ (info16 _) (by simp only [d16_size]) (tab_oneCell _ _ fun _ => rfl) ?_ | refine wpList_load_has 37 _ rfl _ rfl rfl 37 _ hQ' _ Tryd.underlying37 rfl (info16 _) ?_ | refine wpList_load_has 37 _ rfl _ rfl rfl 37 _ hX _ Tryd.underlying37 rfl (info16 _) ?_)
        refine (cM _ hF).mono ?_
        rintro z w4 ⟨rfl, hx⟩
        replace hX := hX.after hx
        replace hR := hR.after hx
        replace hE := hE.after hx
        replace hF := hF.after hx
        replace hQ' := hQ'.after hx
        replace hb := below_trans hb hx
        have hQ2 := hQ'.setRow (d16 y2)
        replace hX := hX.farRow (k := w.heap.size + 1 + 1) (by omega) (d16 y2)
        replace hR := hR.farRow (k := w.heap.size + 1 + 1) (by omega) (d16 y2)
        replace hE := hE.farRow (k := w.heap.size + 1 + 1) (by omega) (d16 y2)
        replace hF := Has.farRow hF (k := w.heap.size + 1 + 1) (by omega) (d16 y2)
        replace hb := below_setRow hb (g := w.heap.size + 1 + 1) (by omega) (d16 y2)
        clear c1 hx cM
        go_wp2_with (first | refine wpList_store_row rfl 37 _ _ rfl (w.heap.size + 1 + 1) _ rfl rfl 37 _ hQ' (info16 _) (by simp only [d16_size]) (tab_oneCell _ _ fun _ => rfl) ?_)
        go_roundw
        case rel => exact ⟨j, by omega, by go_num, hX, hR, by rw [← HF.out]; exact hQ2, hE, hF, hg, hb⟩
        case measure => simp [intOf] <;> omega
    · obtain rfl : k = 0 := by omega
      clear hk hlt hX hE
      go_wp2_with (first | refine wpList_load_has 37 _ rfl _ rfl rfl 37 _ hQ _ Tryd.underlying37 rfl (info16 _) ?_ | refine wpList_store_row rfl 37 _ _ rfl (w.heap.size + 1) _ rfl rfl 37 _ hR (info16 _) (by simp only [d16_size]) (tab_oneCell _ _ fun _ => rfl) ?_)
      exact bodyPost_ret (v := .agg (d16 (F 0))) (results_cell_row rfl _ _ (w.heap.size + 1) 37 _ _ _ rfl (hR.setRow _) Tryd.underlying37 rfl (info16 _)) rfl ⟨rfl, below_setRow hb (by omega) _⟩
theorem finv_c (x m g : Nat) (w : World) (hF : IsField w g m) (hm : FldOK m) (hx : x < m) :
    Calls Tryd.prog 25 #[.pointer (some ⟨g, 0, none⟩), .agg (d16 x)] w fun z w' => z = .returned (.agg (d16 (x ^ (m - 2) % m))) ∧ Below w.heap.size w w' := by
  have hmm := hm
  obtain ⟨m0, m1, m2, _, m4⟩ := hmm
  have h1m : 1 < m := by
    have : (65536 : Nat) ^ 16 = 65536 * 65536 ^ 15 := by decide +kernel
    omega
  have h := finv_e x m (m - 2) (hxd m 0 - 2) g w hF hm hx h1m (by omega) (by have := hxd_lt m 0; rw [IntKind.wrap_u64]; omega) (less2 m4)
  rw [powI_end] at h
  exact h
end Go.Proofs.YtflkhlhpifmocaaDoor
namespace Go.Proofs.YtflkhlhpifmocaaDoor
open Go Go.RowKit

section
variable {P : Program} {Q : Exit → Act → World → Prop}
def allB (ops : Array Oper) : Bool :=
  (ops.toList.all fun o => o.guard.isNone) && distinctB ops.toList &&
  ((List.range ops.size).all fun i => match ops[i]? with
    | some o => o.after.toList.all fun e => !Region.binds .any e || decide (e.on < i)
    | none => true)
theorem ready_ne2 {ops : Array Oper} {listed : Array Bool} (hb : ∀ (i : Nat) o, ops[i]? = some o → ∀ e ∈ o.after, Region.binds .any e = true → e.on < i) (hsz : listed.size = ops.size) {i : Nat} (hi : i < ops.size) (hun : listed.getD i true = false) :
    Region.ready .any ops listed ≠ [] := by
  induction i using Nat.strongRecOn with
  | _ i ih =>
    obtain ⟨o, ho⟩ : ∃ o, ops[i]? = some o := ⟨ops[i]'(by omega), by simp⟩
    by_cases h : ∀ e ∈ o.after, Region.binds .any e = true → listed.getD e.on false = true
    · exact fun hr => by
        have : i ∈ Region.ready .any ops listed := mem_ready.2 ⟨hun, o, ho, h⟩
        rw [hr] at this
        cases this
    · have h3 : ∃ e ∈ o.after, Region.binds .any e = true ∧ listed.getD e.on false ≠ true := Classical.byContradiction fun hc' => h fun e he hbd => by
        cases hq : listed.getD e.on false with
        | true => rfl
        | false => exact absurd ⟨e, he, hbd, by rw [hq]; simp⟩ hc'
      obtain ⟨e, he, hbd, hne⟩ := h3
      have hlt := hb i o ho e he hbd
      exact ih e.on hlt (by omega) (getD_in (by rw [hsz]; omega) (by simpa using hne))
theorem any_of_all {l : List Oper} {a : Act} {w : World} (F : Nat → Value → World → Prop) (hB : allB l.toArray = true)
    (hst : ∀ i x w' w'', F i x w' → Below w'.heap.size w' w'' → F i x w'')
    (hstep : ∀ i o, l[i]? = some o → ∀ (v : Nat → Value) w', Below w.heap.size w w' → (∀ e ∈ o.after, Region.binds .any e = true → F e.on (v e.on) w') →
      ∀ K : Act → World → Prop, (∀ x w'', Below w'.heap.size w' w'' → F i x w'' → K ((putAll l v 0 a).put o.dst x) w'') → o.wp P (putAll l v 0 a) w' K Q)
    (hend : ∀ (v : Nat → Value) w', Below w.heap.size w w' → (∀ i, i < l.length → F i (v i) w') → Q .normal (putAll l v 0 a) w') :
    ∀ (f : Nat) (listed : Array Bool) (v : Nat → Value) (w' : World), listed.size = l.length → left listed l.length = f → Below w.heap.size w w' → (∀ i, i < l.length → listed.getD i false = true → F i (v i) w') →
      wpAny P .any l.toArray Q f listed (putAll l v 0 a) w' := by
  simp only [allB, Bool.and_eq_true] at hB
  obtain ⟨⟨hg, hd⟩, hback⟩ := hB
  have hgn : ∀ (i : Nat) o, l[i]? = some o → o.guard = none := fun i o ho => by
    have h1 := List.all_eq_true.1 hg o (List.mem_iff_getElem?.2 ⟨i, ho⟩)
    simpa using h1
  have hback' : ∀ (i : Nat) o, l.toArray[i]? = some o → ∀ e ∈ o.after, Region.binds .any e = true → e.on < i := fun i o ho e he hbd => by
    have hi : i < l.toArray.size := (Array.getElem?_eq_some_iff.1 ho).1
    have h1 := List.all_eq_true.1 hback i (List.mem_range.2 hi)
    rw [ho] at h1
    have h2 := List.all_eq_true.1 h1 e (by simpa using he)
    rw [hbd] at h2
    simpa using h2
  intro f
  induction f with
  | zero =>
    intro listed v w' hsz hl hb hF
    have hall := left_zero hl
    refine ⟨?_, hend v w' hb fun i hi => hF i hi (getD_of_true (hall i hi) (by omega))⟩
    cases hr : Region.ready .any l.toArray listed with
    | nil => rfl
    | cons i r =>
      have hi : i ∈ Region.ready .any l.toArray listed := by rw [hr]; exact List.mem_cons_self ..
      obtain ⟨hun, o, ho, _⟩ := mem_ready.1 hi
      have hil : i < l.length := by simpa using (Array.getElem?_eq_some_iff.1 ho).1
      rw [hall i hil] at hun
      cases hun
  | succ f ih =>
    intro listed v w' hsz hl hb hF
    have hex : ∃ i, i < l.length ∧ listed.getD i true = false := Classical.byContradiction fun hc' => by
      have : left listed l.length = 0 := by
        unfold left
        rw [List.countP_eq_zero]
        intro i hi
        cases hq : listed.getD i true with
        | true => simp
        | false => exact absurd ⟨i, by simpa using hi, hq⟩ hc'
      omega
    obtain ⟨i0, hi0, hun0⟩ := hex
    refine ⟨fun hempty => absurd hempty (ready_ne2 hback' (by simpa using hsz) (by simpa using hi0) hun0), fun i hr => ?_⟩
    obtain ⟨hun, o, ho, hall⟩ := mem_ready.1 hr
    have ho' : l[i]? = some o := by simpa using ho
    have hil : i < l.length := (List.getElem?_eq_some_iff.1 ho').1
    have hset := fun x => putAll_set l v 0 a i o x hd ho'
    unfold wpOp
    simp only [ho, Region.wanted, hgn i o ho', if_true]
    refine .inl (hstep i o ho' v w' hb (fun e he hbd => hF e.on (Nat.lt_trans (hback' i o ho e he hbd) hil) (hall e he hbd)) _ fun x w'' hb2 hFx => ?_)
    rw [hset x, Nat.zero_add]
    refine ih _ _ w'' (by simpa using hsz) (by have := left_set hil hun; omega) (hb.trans (hb2.mono hb.size)) fun j hj hlj => ?_
    unfold setAt
    by_cases hji : j = i
    · subst hji; rw [if_pos rfl]; exact hFx
    · rw [if_neg hji]
      rw [getD_set_ne false (Ne.symm hji)] at hlj
      exact hst j (v j) w' w'' (hF j hj hlj) hb2
def StepF (P : Program) (Q : Exit → Act → World → Prop) (F : Nat → Value → World → Prop) (l : List Oper) (a : Act) (w : World) (i : Nat) (o : Oper) : Prop :=
  ∀ (v : Nat → Value) w', Below w.heap.size w w' → (∀ e ∈ o.after, Region.binds .any e = true → F e.on (v e.on) w') →
    ∀ K : Act → World → Prop, (∀ x w'', Below w'.heap.size w' w'' → F i x w'' → K ((putAll l v 0 a).put o.dst x) w'') → o.wp P (putAll l v 0 a) w' K Q
def StepsF (P : Program) (Q : Exit → Act → World → Prop) (F : Nat → Value → World → Prop) (l : List Oper) (a : Act) (w : World) : List Oper → Nat → Prop
  | [], _ => True
  | o :: r, k => StepF P Q F l a w k o ∧ StepsF P Q F l a w r (k + 1)
theorem stepsF_at {F : Nat → Value → World → Prop} {l : List Oper} {a : Act} {w : World} : ∀ (r : List Oper) (k : Nat), StepsF P Q F l a w r k → ∀ i o, r[i]? = some o → StepF P Q F l a w (k + i) o
  | [], _, _, i, o, h => by simp at h
  | o' :: r, k, hs, i, o, h => by
    cases i with
    | zero =>
      obtain rfl : o' = o := by simpa using h
      exact hs.1
    | succ i =>
      have := stepsF_at r (k + 1) hs.2 i o (by simpa using h)
      rwa [show k + 1 + i = k + (i + 1) by omega] at this
theorem region_allF {id : Nat} {l : List Oper} {a : Act} {w : World} (F : Nat → Value → World → Prop) (hm : P.follows .mixedOrders = true) (hB : allB l.toArray = true)
    (hst : ∀ i x w' w'', F i x w' → Below w'.heap.size w' w'' → F i x w'') (hsteps : StepsF P Q F l a w l 0)
    (hend : ∀ (v : Nat → Value) w', Below w.heap.size w w' → (∀ i, i < l.length → F i (v i) w') → Q .normal (putAll l v 0 a) w') : (Code.region id l.toArray true).wp P Q a w := by
  refine wp_region_any hm ?_
  have key := any_of_all F hB hst (fun i o ho => by
      have := stepsF_at l 0 hsteps i o ho
      rw [Nat.zero_add] at this
      exact this) hend l.length (Array.replicate l.toArray.size false) (slotsOf l a) { w with drawn := w.drawn + 1 } (by simp)
    (by
      unfold left
      have : (List.range l.length).countP (fun i => !(Array.replicate l.toArray.size false).getD i true) = (List.range l.length).length := by
        rw [List.countP_eq_length]
        intro i hi
        have hin : i < l.length := by simpa using hi
        have h1 : (Array.replicate l.toArray.size false).getD i true = false := getD_in (by simpa using hin) (getD_replicate_false _ _)
        rw [h1]; rfl
      rw [this]; simp)
    ⟨rfl, rfl, rfl, Nat.le_refl _, fun _ _ => rfl⟩ (fun i hi hl => by rw [getD_replicate_false] at hl; cases hl)
  rw [putAll_slots l a (slotsOf l a) 0 (fun j o d ho hd => by unfold slotsOf; rw [Nat.zero_add, ho]; simp only [hd])] at key
  simpa using key
/-- what an operation of such a region yields: this value, or a slice over a row of its own -/
inductive YldA where
  | val (v : Value)
  | row (t : TypeId) (cs : Array Value) (len : Nat)
def YldA.fact (W : World) : YldA → Value → World → Prop
  | .val v, x, _ => x = v
  | .row t cs len, x, w => ∃ g, x = .slice (some ⟨g, 0, none⟩) len len ∧ W.heap.size ≤ g ∧ g < w.heap.size ∧ w.heap[g]? = some (.cells cs t (0, 0))
def yldA (W : World) (ks : List YldA) (i : Nat) (x : Value) (w : World) : Prop := match ks[i]? with
  | some k => k.fact W x w
  | none => True
theorem yldA_keep {W : World} {ks : List YldA} (i : Nat) (x : Value) (w' w'' : World) (h : yldA W ks i x w') (hb : Below w'.heap.size w' w'') : yldA W ks i x w'' := by
  unfold yldA at h ⊢
  split
  · rename_i k hk
    rw [hk] at h
    cases k with
    | val v => exact h
    | row t cs len =>
      obtain ⟨g, e, h1, h2, h3⟩ := h
      exact ⟨g, e, h1, Nat.lt_of_lt_of_le h2 hb.size, (hb.block g h2).trans h3⟩
  · trivial
end
end Go.Proofs.YtflkhlhpifmocaaDoor
