/-
Layer 7, plain: reading manifests from bytes; what is decoded is what was encoded, and back.
-/
import Derived.Test.YtoplknankmomcaaMfI
namespace Go.Proofs.Ytoplknankmomcaa

def leV : List UInt8 → Nat
  | [] => 0
  | a :: r => a.toNat + 256 * leV r
theorem leT_leV (bs : List UInt8) : ∀ (l rest : List UInt8) (p : Nat), bs.drop p = l ++ rest → leT (bsN bs) l.length p = leV l
  | [], _, _, _ => rfl
  | a :: l, rest, p, h => by
    have h1 : p < bs.length := by
      rcases Nat.lt_or_ge p bs.length with h1 | h1
      · exact h1
      · rw [List.drop_of_length_le h1] at h; cases h
    have h2 : bs.drop p = bs[p] :: bs.drop (p + 1) := List.drop_eq_getElem_cons h1
    rw [h2] at h
    injection h with e1 e2
    have h3 := leT_leV bs l rest (p + 1) e2
    show bsN bs p + 256 * leT (bsN bs) l.length (p + 1) = a.toNat + 256 * leV l
    rw [h3]
    unfold bsN
    rw [List.getD_eq_getElem?_getD, List.getElem?_eq_getElem h1, Option.getD_some, e1]
theorem leB_cons (k x : Nat) : leB (k + 1) x = UInt8.ofNat x :: leB k (x / 256) := by
  unfold leB
  rw [List.range_succ_eq_map, List.map_cons, List.map_map, Nat.pow_zero, Nat.div_one]
  congr 1
  apply List.map_congr_left
  intro j _
  show UInt8.ofNat (x / 256 ^ (j + 1)) = UInt8.ofNat (x / 256 / 256 ^ j)
  rw [Nat.pow_succ, Nat.mul_comm, Nat.div_div_eq_div_mul]
theorem leV_leB : ∀ (k x : Nat), leV (leB k x) = x % 256 ^ k
  | 0, x => by simp [leB, leV, Nat.mod_one]
  | k + 1, x => by
    have e : 256 ^ (k + 1) = 256 * 256 ^ k := by rw [Nat.pow_succ, Nat.mul_comm]
    rw [leB_cons, leV, leV_leB k, UInt8.toNat_ofNat', e, Nat.mod_mul]
theorem leB_leV : ∀ l : List UInt8, leB l.length (leV l) = l
  | [] => rfl
  | a :: l => by
    have ha := a.toNat_lt
    rw [List.length_cons, leB_cons, leV, show (a.toNat + 256 * leV l) / 256 = leV l by omega, leB_leV l]
    congr 1
    apply UInt8.toNat.inj
    rw [UInt8.toNat_ofNat']
    omega
theorem leV_lt : ∀ l : List UInt8, leV l < 256 ^ l.length
  | [] => by simp [leV]
  | a :: l => by
    have ha := a.toNat_lt
    have := leV_lt l
    rw [List.length_cons, Nat.pow_succ, leV]
    omega
/-- a cursor's state -/
structure Cu where
  p : Nat
  bad : Bool
def Cu.num (bs : List UInt8) (k : Nat) (s : Cu) : Nat := tkN bs s.p s.bad k
def Cu.nxt (bs : List UInt8) (k : Nat) (s : Cu) : Cu := ⟨tkP bs.length s.p s.bad (k : Int), !okT bs.length s.p s.bad (k : Int)⟩
theorem Cu.nxt_le {bs : List UInt8} {k : Nat} {s : Cu} (h : s.p ≤ bs.length) : (s.nxt bs k).p ≤ bs.length := tkP_le _ _ h
/-- k bytes are there -/
theorem cu_read {bs l rest : List UInt8} {s : Cu} (hb : s.bad = false) (h : bs.drop s.p = l ++ rest) (hp : s.p ≤ bs.length) :
    okT bs.length s.p s.bad (l.length : Int) = true ∧ s.num bs l.length = leV l ∧ s.nxt bs l.length = ⟨s.p + l.length, false⟩ ∧ bs.drop (s.p + l.length) = rest ∧ s.p + l.length ≤ bs.length := by
  have hl : l.length ≤ bs.length - s.p := by
    have := congrArg List.length h
    rw [List.length_drop, List.length_append] at this
    omega
  have hok : okT bs.length s.p s.bad (l.length : Int) = true := by unfold okT; rw [hb]; simp; omega
  refine ⟨hok, ?_, ?_, ?_, by omega⟩
  · unfold Cu.num tkN
    rw [if_pos hok]
    exact leT_leV bs l rest s.p h
  · unfold Cu.nxt tkP
    rw [hok]
    simp
  · rw [← List.drop_drop, h, List.drop_left]
/-- a number was read: its bytes are there -/
theorem cu_back {bs : List UInt8} {k : Nat} {s : Cu} (h : (s.nxt bs k).bad = false) (hp : s.p ≤ bs.length) :
    s.bad = false ∧ (s.nxt bs k).p = s.p + k ∧ s.p + k ≤ bs.length ∧ bs.take (s.p + k) = bs.take s.p ++ leB k (s.num bs k) ∧ s.num bs k < 256 ^ k ∧ (bs.drop s.p).take k = leB k (s.num bs k) := by
  have hok : okT bs.length s.p s.bad (k : Int) = true := by
    have : (!okT bs.length s.p s.bad (k : Int)) = false := h
    simpa using this
  have hok' := hok
  unfold okT at hok'
  simp only [Bool.and_eq_true, Bool.not_eq_true', decide_eq_true_eq] at hok'
  have hl : ((bs.drop s.p).take k).length = k := by rw [List.length_take, List.length_drop]; omega
  have hnum : s.num bs k = leV ((bs.drop s.p).take k) := by
    unfold Cu.num tkN
    rw [if_pos hok]
    have := leT_leV bs ((bs.drop s.p).take k) ((bs.drop s.p).drop k) s.p (List.take_append_drop k _).symm
    rw [hl] at this
    exact this
  have hle : leB k (s.num bs k) = (bs.drop s.p).take k := by
    have := leB_leV ((bs.drop s.p).take k)
    rw [hl] at this
    rw [hnum]; exact this
  refine ⟨hok'.1, ?_, by omega, ?_, ?_, hle.symm⟩
  · show tkP bs.length s.p s.bad (k : Int) = s.p + k
    unfold tkP
    rw [if_pos hok]; rfl
  · rw [hle, List.take_add]
  · rw [hnum]
    have := leV_lt ((bs.drop s.p).take k)
    rwa [hl] at this
def decG (bs : List UInt8) : Nat → Cu → List Gr → Bool × List Gr × Cu
  | 0, s, gs => (true, gs, s)
  | k + 1, s, gs =>
    if ((s.nxt bs 4).nxt bs 4).num bs 4 ≤ 7 then decG bs k (((s.nxt bs 4).nxt bs 4).nxt bs 4) (gs ++ [⟨s.num bs 4, (s.nxt bs 4).num bs 4, (((s.nxt bs 4).nxt bs 4).num bs 4 : Nat)⟩])
    else (false, gs ++ [⟨s.num bs 4, (s.nxt bs 4).num bs 4, (((s.nxt bs 4).nxt bs 4).num bs 4 : Nat)⟩], ((s.nxt bs 4).nxt bs 4).nxt bs 4)
def digB (bs : List UInt8) (s : Cu) : List UInt8 := if okT bs.length s.p s.bad 32 then (bs.drop s.p).take 32 else List.replicate 32 0
def decP (bs : List UInt8) : Nat → Cu → List Pay → Bool × List Pay × Cu
  | 0, s, ps => (true, ps, s)
  | n + 1, s, ps =>
    let s1 := s.nxt bs 32
    let s2 := s1.nxt bs 4
    let s3 := s2.nxt bs 4
    let s4 := s3.nxt bs 1
    let s5 := s4.nxt bs 1
    let s6 := s5.nxt bs 2
    if s5.num bs 2 = 0 ∧ s4.num bs 1 ≤ 4 then
      let r := decG bs (s4.num bs 1) s6 []
      if r.1 = true then decP bs n r.2.2 (ps ++ [⟨digB bs s, s1.num bs 4, s2.num bs 4, r.2.1, (s3.num bs 1 : Nat)⟩])
      else (false, ps ++ [⟨digB bs s, s1.num bs 4, s2.num bs 4, r.2.1, (s3.num bs 1 : Nat)⟩], r.2.2)
    else (false, ps ++ [⟨digB bs s, s1.num bs 4, s2.num bs 4, [], (s3.num bs 1 : Nat)⟩], s6)
def c0 : Cu := ⟨0, false⟩
def c5 (bs : List UInt8) : Cu := ((((c0.nxt bs 8).nxt bs 4).nxt bs 1).nxt bs 1).nxt bs 2
def hdC (bs : List UInt8) : Nat := (c0.nxt bs 8).num bs 4
def hdK (bs : List UInt8) : Nat := ((c0.nxt bs 8).nxt bs 4).num bs 1
def hdN (bs : List UInt8) : Nat := (((c0.nxt bs 8).nxt bs 4).nxt bs 1).num bs 1
def hdZ (bs : List UInt8) : Nat := ((((c0.nxt bs 8).nxt bs 4).nxt bs 1).nxt bs 1).num bs 2
def hdOK (bs : List UInt8) : Bool := decide (tkB bs 0 false 8 = mark8 ∧ hdZ bs = 0 ∧ hdN bs ≤ 4)
/-- did it read well, to the end -/
def decOK (bs : List UInt8) (r : Bool × List Pay × Cu) : Bool := r.1 && !r.2.2.bad && decide (r.2.2.p = bs.length)
def decM (bs : List UInt8) : Man × Nat :=
  if hdOK bs = true then
    if decOK bs (decP bs (hdN bs) (c5 bs) []) = true then
      if rightM ⟨hdC bs, (hdK bs : Nat), (decP bs (hdN bs) (c5 bs) []).2.1⟩ = 0 then (⟨hdC bs, (hdK bs : Nat), (decP bs (hdN bs) (c5 bs) []).2.1⟩, 0)
      else (man0, rightM ⟨hdC bs, (hdK bs : Nat), (decP bs (hdN bs) (c5 bs) []).2.1⟩)
    else (man0, 3)
  else (man0, 3)
def encM (m : Man) : List UInt8 := (outs m m.ps.length m.ps.length).flatten
/-- grants are read as they were written -/
theorem decG_enc (bs : List UInt8) : ∀ (gs : List Gr) (s : Cu) (acc : List Gr) (rest : List UInt8), s.bad = false → s.p ≤ bs.length → bs.drop s.p = (gs.flatMap grL).flatten ++ rest → (∀ g ∈ gs, g.Wf ∧ fineB g = true) →
    ∃ p', decG bs gs.length s acc = (true, acc ++ gs, ⟨p', false⟩) ∧ p' ≤ bs.length ∧ bs.drop p' = rest
  | [], s, acc, rest, hb, hp, h, _ => ⟨s.p, by obtain ⟨p, b⟩ := s; simp only at hb; subst hb; simp [decG], hp, by simpa using h⟩
  | g :: gs, s, acc, rest, hb, hp, h, hw => by
    obtain ⟨hwf, hf⟩ := hw g (List.mem_cons_self ..)
    have hf' := of_decide_eq_true hf
    obtain ⟨rn, hrn⟩ : ∃ rn : Nat, g.r = (rn : Int) := ⟨g.r.toNat, by omega⟩
    have e : ((g :: gs).flatMap grL).flatten ++ rest = leB 4 g.s ++ (leB 4 g.z ++ (leB 4 rn ++ ((gs.flatMap grL).flatten ++ rest))) := by
      simp [grL, hrn]
    rw [e] at h
    obtain ⟨_, n1, x1, d1, q1⟩ := cu_read hb h hp
    rw [leB_len] at n1 x1 d1 q1
    obtain ⟨_, n2, x2, d2, q2⟩ := cu_read (s := ⟨s.p + 4, false⟩) rfl d1 q1
    rw [leB_len] at n2 x2 d2 q2
    obtain ⟨_, n3, x3, d3, q3⟩ := cu_read (s := ⟨s.p + 4 + 4, false⟩) rfl d2 q2
    rw [leB_len] at n3 x3 d3 q3
    obtain ⟨p', h1, h2, h3⟩ := decG_enc bs gs ⟨s.p + 4 + 4 + 4, false⟩ (acc ++ [g]) rest rfl q3 d3 fun x hx => hw x (List.mem_cons_of_mem _ hx)
    have hs := hwf.s
    have hz := hwf.z
    rw [leV_leB, Nat.mod_eq_of_lt (by omega)] at n1 n2 n3
    refine ⟨p', ?_, h2, h3⟩
    rw [List.length_cons, decG, x1, x2, x3, n1, n2, n3, if_pos (by omega)]
    have eg : (⟨g.s, g.z, ((rn : Nat) : Int)⟩ : Gr) = g := by rw [← hrn]
    rw [eg, h1]
    simp
/-- grants that were read: their bytes are there -/
theorem decG_back (bs : List UInt8) : ∀ (k : Nat) (s : Cu) (acc : List Gr), (decG bs k s acc).1 = true → (decG bs k s acc).2.2.bad = false → s.p ≤ bs.length →
    ∃ new, (decG bs k s acc).2.1 = acc ++ new ∧ new.length = k ∧ s.bad = false ∧ (decG bs k s acc).2.2.p ≤ bs.length ∧ bs.take (decG bs k s acc).2.2.p = bs.take s.p ++ (new.flatMap grL).flatten
  | 0, s, acc, _, h2, hp => ⟨[], by simp [decG], rfl, h2, hp, by simp [decG]⟩
  | k + 1, s, acc, h1, h2, hp => by
    rw [decG] at h1 h2 ⊢
    by_cases hr : ((s.nxt bs 4).nxt bs 4).num bs 4 ≤ 7
    · rw [if_pos hr] at h1 h2 ⊢
      have hp1 := Cu.nxt_le (k := 4) hp
      have hp2 := Cu.nxt_le (k := 4) hp1
      have hp3 := Cu.nxt_le (k := 4) hp2
      obtain ⟨new, e1, e2, e3, e4, e5⟩ := decG_back bs k _ _ h1 h2 hp3
      obtain ⟨b3, q3, l3, t3, _, _⟩ := cu_back e3 hp2
      obtain ⟨b2, q2, l2, t2, _, _⟩ := cu_back b3 hp1
      obtain ⟨b1, q1, l1, t1, _, _⟩ := cu_back b2 hp
      refine ⟨_ :: new, by rw [e1, List.append_assoc]; rfl, by rw [List.length_cons, e2], b1, e4, ?_⟩
      rw [e5, q3, t3, q2, t2, q1, t1]
      simp [grL]
    · rw [if_neg hr] at h1
      cases h1
/-- payloads are read as they were written -/
theorem decP_enc (bs : List UInt8) : ∀ (ps : List Pay) (s : Cu) (acc : List Pay) (rest : List UInt8), s.bad = false → s.p ≤ bs.length → bs.drop s.p = (ps.flatMap plL).flatten ++ rest → (∀ p ∈ ps, p.Wf ∧ badP p = false ∧ ∀ g ∈ p.gs, fineB g = true) →
    ∃ p', decP bs ps.length s acc = (true, acc ++ ps, ⟨p', false⟩) ∧ p' ≤ bs.length ∧ bs.drop p' = rest
  | [], s, acc, rest, hb, hp, h, _ => ⟨s.p, by obtain ⟨p, b⟩ := s; simp only at hb; subst hb; simp [decP], hp, by simpa using h⟩
  | p :: ps, s, acc, rest, hb, hp, h, hw => by
    obtain ⟨hwf, hbp, hgf⟩ := hw p (List.mem_cons_self ..)
    unfold badP at hbp
    simp only [decide_eq_false_iff_not] at hbp
    obtain ⟨cn, hcn⟩ : ∃ cn : Nat, p.c = (cn : Int) := ⟨p.c.toNat, by omega⟩
    have eb : ∀ x : Nat, x < 256 → [u8 (x : Int)] = leB 1 x := fun x hx => by
      show [u8 (x : Int)] = [UInt8.ofNat (x / 256 ^ 0)]
      unfold u8
      rw [Nat.pow_zero, Nat.div_one]
      congr 2
      omega
    have e : ((p :: ps).flatMap plL).flatten ++ rest = p.d ++ (leB 4 p.z ++ (leB 4 p.b ++ (leB 1 cn ++ (leB 1 p.gs.length ++ (leB 2 0 ++ ((p.gs.flatMap grL).flatten ++ ((ps.flatMap plL).flatten ++ rest))))))) := by
      rw [← eb cn (by omega), ← eb p.gs.length (by omega), show leB 2 0 = [0, 0] by decide]
      simp [plL, payL, hcn]
    rw [e] at h
    have hd := hwf.d
    obtain ⟨ok0, _, x0, d0, q0⟩ := cu_read hb h hp
    rw [hd] at ok0 x0 d0 q0
    obtain ⟨_, n1, x1, d1, q1⟩ := cu_read (s := ⟨s.p + 32, false⟩) rfl d0 q0
    rw [leB_len] at n1 x1 d1 q1
    obtain ⟨_, n2, x2, d2, q2⟩ := cu_read (s := ⟨s.p + 32 + 4, false⟩) rfl d1 q1
    rw [leB_len] at n2 x2 d2 q2
    obtain ⟨_, n3, x3, d3, q3⟩ := cu_read (s := ⟨s.p + 32 + 4 + 4, false⟩) rfl d2 q2
    rw [leB_len] at n3 x3 d3 q3
    obtain ⟨_, n4, x4, d4, q4⟩ := cu_read (s := ⟨s.p + 32 + 4 + 4 + 1, false⟩) rfl d3 q3
    rw [leB_len] at n4 x4 d4 q4
    obtain ⟨_, n5, x5, d5, q5⟩ := cu_read (s := ⟨s.p + 32 + 4 + 4 + 1 + 1, false⟩) rfl d4 q4
    rw [leB_len] at n5 x5 d5 q5
    obtain ⟨p1, g1, g2, g3⟩ := decG_enc bs p.gs ⟨s.p + 32 + 4 + 4 + 1 + 1 + 2, false⟩ [] _ rfl q5 d5 fun g hg => ⟨hwf.gs g hg, hgf g hg⟩
    obtain ⟨p2, r1, r2, r3⟩ := decP_enc bs ps ⟨p1, false⟩ (acc ++ [p]) rest rfl g2 g3 fun x hx => hw x (List.mem_cons_of_mem _ hx)
    have hz := hwf.z
    have hbb := hwf.b
    rw [leV_leB] at n1 n2 n3 n4 n5
    rw [Nat.mod_eq_of_lt (by omega)] at n1 n2 n3 n4 n5
    refine ⟨p2, ?_, r2, r3⟩
    have hdig : digB bs s = p.d := by
      unfold digB
      rw [show okT bs.length s.p s.bad 32 = true from ok0, if_pos rfl, h, List.take_append_of_le_length (by omega), List.take_of_length_le (by omega)]
    rw [List.length_cons, decP]
    dsimp only
    rw [x0, x1, x2, x3, x4, x5, n1, n2, n3, n4, n5, if_pos ⟨rfl, by omega⟩, g1, hdig, List.nil_append]
    dsimp only
    rw [if_pos rfl]
    have ep : (⟨p.d, p.z, p.b, p.gs, ((cn : Nat) : Int)⟩ : Pay) = p := by rw [← hcn]
    rw [ep, r1]
    simp
theorem decG_le (bs : List UInt8) : ∀ (k : Nat) (s : Cu) (acc : List Gr), s.p ≤ bs.length → (decG bs k s acc).2.2.p ≤ bs.length
  | 0, s, acc, h => h
  | k + 1, s, acc, h => by
    rw [decG]
    split
    · exact decG_le bs k _ _ (Cu.nxt_le (Cu.nxt_le (Cu.nxt_le h)))
    · exact Cu.nxt_le (Cu.nxt_le (Cu.nxt_le h))
theorem one_byte (x : Nat) (hx : x < 256) : [u8 (x : Int)] = leB 1 x := by
  show [u8 (x : Int)] = [UInt8.ofNat (x / 256 ^ 0)]
  unfold u8
  rw [Nat.pow_zero, Nat.div_one]
  congr 2
  omega
theorem decP_back (bs : List UInt8) : ∀ (n : Nat) (s : Cu) (acc : List Pay), (decP bs n s acc).1 = true → (decP bs n s acc).2.2.bad = false → s.p ≤ bs.length →
    ∃ new, (decP bs n s acc).2.1 = acc ++ new ∧ new.length = n ∧ s.bad = false ∧ (decP bs n s acc).2.2.p ≤ bs.length ∧ bs.take (decP bs n s acc).2.2.p = bs.take s.p ++ (new.flatMap plL).flatten
  | 0, s, acc, _, h2, hp => ⟨[], by simp [decP], rfl, h2, hp, by simp [decP]⟩
  | n + 1, s, acc, h1, h2, hp => by
    rw [decP] at h1 h2 ⊢
    dsimp only at h1 h2 ⊢
    by_cases hr : ((((((s.nxt bs 32).nxt bs 4).nxt bs 4).nxt bs 1).nxt bs 1).num bs 2 = 0 ∧ ((((s.nxt bs 32).nxt bs 4).nxt bs 4).nxt bs 1).num bs 1 ≤ 4)
    · rw [if_pos hr] at h1 h2 ⊢
      have hp0 := Cu.nxt_le (k := 32) hp
      have hp1 := Cu.nxt_le (k := 4) hp0
      have hp2 := Cu.nxt_le (k := 4) hp1
      have hp3 := Cu.nxt_le (k := 1) hp2
      have hp4 := Cu.nxt_le (k := 1) hp3
      have hp5 := Cu.nxt_le (k := 2) hp4
      generalize hg : decG bs (((((s.nxt bs 32).nxt bs 4).nxt bs 4).nxt bs 1).num bs 1) ((((((s.nxt bs 32).nxt bs 4).nxt bs 4).nxt bs 1).nxt bs 1).nxt bs 2) [] = r at h1 h2 ⊢
      by_cases hr1 : r.1 = true
      · rw [if_pos hr1] at h1 h2 ⊢
        have hgl : r.2.2.p ≤ bs.length := by rw [← hg]; exact decG_le bs _ _ _ hp5
        obtain ⟨new, e1, e2, e3, e4, e5⟩ := decP_back bs n _ _ h1 h2 hgl
        rw [← hg] at hr1 e3 e5
        obtain ⟨gs, g1, g2, g3, g4, g5⟩ := decG_back bs _ _ _ hr1 e3 hp5
        rw [hg] at g1 e5
        obtain ⟨b5, q5, l5, t5, _, _⟩ := cu_back g3 hp4
        obtain ⟨b4, q4, l4, t4, m4, _⟩ := cu_back b5 hp3
        obtain ⟨b3, q3, l3, t3, m3, _⟩ := cu_back b4 hp2
        obtain ⟨b2, q2, l2, t2, _, _⟩ := cu_back b3 hp1
        obtain ⟨b1, q1, l1, t1, _, _⟩ := cu_back b2 hp0
        obtain ⟨b0, q0, l0, _, _, _⟩ := cu_back b1 hp
        have ok0 : okT bs.length s.p s.bad 32 = true := by
          have : (!okT bs.length s.p s.bad ((32 : Nat) : Int)) = false := b1
          simpa using this
        have hdig : bs.take (s.p + 32) = bs.take s.p ++ digB bs s := by
          unfold digB
          rw [if_pos ok0, List.take_add]
        rw [List.nil_append] at g1
        refine ⟨_ :: new, by rw [e1, List.append_assoc]; rfl, by rw [List.length_cons, e2], b0, e4, ?_⟩
        rw [e5, ← hg, g5, q5, t5, q4, t4, q3, t3, q2, t2, q1, t1, q0, hdig, hg, g1, ← one_byte _ (show _ < 256 from m4), ← one_byte _ (show _ < 256 from m3), hr.1, show leB 2 0 = [0, 0] by decide]
        simp [plL, payL, g2]
      · rw [if_neg hr1] at h1; cases h1
    · rw [if_neg hr] at h1
      cases h1
theorem encM_eq (m : Man) : encM m = mark8 ++ (leB 4 m.c ++ ([u8 m.k] ++ ([u8 (m.ps.length : Int)] ++ (leB 2 0 ++ (m.ps.flatMap plL).flatten)))) := by
  unfold encM outs headL
  rw [List.take_of_length_le (Nat.le_refl _), show leB 2 0 = [0, 0] by decide]
  simp
/-- what is encoded is decoded -/
theorem dec_enc (m : Man) (hw : m.Wf) (hv : rightM m = 0) : decM (encM m) = (m, 0) := by
  obtain ⟨⟨h0, h255, h1, h4⟩, hpf⟩ := right_fine hv
  obtain ⟨kn, hkn⟩ : ∃ kn : Nat, m.k = (kn : Int) := ⟨m.k.toNat, by omega⟩
  have hE := encM_eq m
  rw [hkn, one_byte kn (by omega), one_byte m.ps.length (by omega)] at hE
  have hc := hw.c
  generalize encM m = bs at *
  have hd0 : bs.drop c0.p = mark8 ++ (leB 4 m.c ++ (leB 1 kn ++ (leB 1 m.ps.length ++ (leB 2 0 ++ (m.ps.flatMap plL).flatten)))) := by rw [hE]; rfl
  obtain ⟨ok0, _, x0, d0, q0⟩ := cu_read rfl hd0 (Nat.zero_le _)
  rw [show mark8.length = 8 from rfl] at ok0 x0 d0 q0
  obtain ⟨_, n1, x1, d1, q1⟩ := cu_read (s := ⟨c0.p + 8, false⟩) rfl d0 q0
  rw [leB_len] at n1 x1 d1 q1
  obtain ⟨_, n2, x2, d2, q2⟩ := cu_read (s := ⟨c0.p + 8 + 4, false⟩) rfl d1 q1
  rw [leB_len] at n2 x2 d2 q2
  obtain ⟨_, n3, x3, d3, q3⟩ := cu_read (s := ⟨c0.p + 8 + 4 + 1, false⟩) rfl d2 q2
  rw [leB_len] at n3 x3 d3 q3
  obtain ⟨_, n4, x4, d4, q4⟩ := cu_read (s := ⟨c0.p + 8 + 4 + 1 + 1, false⟩) rfl d3 q3
  rw [leB_len] at n4 x4 d4 q4
  rw [leV_leB] at n1 n2 n3 n4
  rw [Nat.mod_eq_of_lt (by omega)] at n1 n2 n3 n4
  obtain ⟨p', r1, r2, r3⟩ := decP_enc bs m.ps ⟨c0.p + 8 + 4 + 1 + 1 + 2, false⟩ [] [] rfl q4 (by rw [List.append_nil]; exact d4) fun p hp => ⟨hw.ps p hp, hpf p hp⟩
  have hp' : p' = bs.length := by
    have := congrArg List.length r3
    rw [List.length_drop] at this
    simp at this
    omega
  have hmk : tkB bs 0 false 8 = mark8 := by
    unfold tkB
    rw [show okT bs.length 0 false 8 = true from ok0, if_pos rfl, show bs.drop 0 = bs.drop c0.p from rfl, hd0]
    rfl
  have eC : hdC bs = m.c := by unfold hdC; rw [x0]; exact n1
  have eK : hdK bs = kn := by unfold hdK; rw [x0, x1]; exact n2
  have eN : hdN bs = m.ps.length := by unfold hdN; rw [x0, x1, x2]; exact n3
  have eZ : hdZ bs = 0 := by unfold hdZ; rw [x0, x1, x2, x3]; exact n4
  have e5 : c5 bs = ⟨c0.p + 8 + 4 + 1 + 1 + 2, false⟩ := by unfold c5; rw [x0, x1, x2, x3, x4]
  have eO : hdOK bs = true := decide_eq_true ⟨hmk, eZ, by rw [eN]; exact h4⟩
  unfold decM
  rw [if_pos eO, eN, e5, r1, List.nil_append, eC, eK, ← hkn, if_pos (by unfold decOK; simp [hp']), if_pos hv]
/-- what was decoded is encoded -/
theorem enc_dec (bs : List UInt8) (h : (decM bs).2 = 0) : encM (decM bs).1 = bs ∧ rightM (decM bs).1 = 0 := by
  unfold decM at h ⊢
  by_cases h1 : hdOK bs = true
  · rw [if_pos h1] at h ⊢
    by_cases h2 : decOK bs (decP bs (hdN bs) (c5 bs) []) = true
    · rw [if_pos h2] at h ⊢
      by_cases h3 : rightM ⟨hdC bs, (hdK bs : Nat), (decP bs (hdN bs) (c5 bs) []).2.1⟩ = 0
      · rw [if_pos h3] at h ⊢
        refine ⟨?_, h3⟩
        have h1' := of_decide_eq_true h1
        obtain ⟨hmk, hz, hn⟩ := h1'
        unfold decOK at h2
        simp only [Bool.and_eq_true, Bool.not_eq_true', decide_eq_true_eq] at h2
        obtain ⟨⟨r1, r2⟩, r3⟩ := h2
        have hp0 : (c0.nxt bs 8).p ≤ bs.length := Cu.nxt_le (Nat.zero_le _)
        have hp1 := Cu.nxt_le (k := 4) hp0
        have hp2 := Cu.nxt_le (k := 1) hp1
        have hp3 := Cu.nxt_le (k := 1) hp2
        have hp4 : (c5 bs).p ≤ bs.length := Cu.nxt_le (k := 2) hp3
        obtain ⟨new, e1, e2, e3, _, e5⟩ := decP_back bs _ _ _ r1 r2 hp4
        obtain ⟨b4, q4, l4, t4, _, _⟩ := cu_back (show ((((c0.nxt bs 8).nxt bs 4).nxt bs 1).nxt bs 1 |>.nxt bs 2).bad = false from e3) hp3
        obtain ⟨b3, q3, l3, t3, m3, _⟩ := cu_back b4 hp2
        obtain ⟨b2, q2, l2, t2, m2, _⟩ := cu_back b3 hp1
        obtain ⟨b1, q1, l1, t1, _, _⟩ := cu_back b2 hp0
        obtain ⟨b0, q0, l0, _, _, _⟩ := cu_back b1 (Nat.zero_le _)
        have ok0 : okT bs.length 0 false 8 = true := by
          have : (!okT bs.length 0 false 8) = false := b1
          simpa using this
        have hm8 : bs.take (c0.p + 8) = mark8 := by
          rw [← hmk]
          unfold tkB
          rw [if_pos ok0]
          rfl
        have e6 : bs.take (c5 bs).p = mark8 ++ leB 4 (hdC bs) ++ leB 1 (hdK bs) ++ leB 1 (hdN bs) ++ leB 2 0 := by
          rw [show (c5 bs).p = _ from q4, t4, q3, t3, q2, t2, q1, t1, q0, hm8]
          rw [show ((((c0.nxt bs 8).nxt bs 4).nxt bs 1).nxt bs 1).num bs 2 = 0 from hz]
          rfl
        rw [List.nil_append] at e1
        rw [r3, List.take_of_length_le (Nat.le_refl _), e6] at e5
        rw [encM_eq]
        dsimp only
        rw [e1, e2, one_byte _ (show hdK bs < 256 from m2), one_byte _ (show hdN bs < 256 from m3)]
        refine Eq.trans ?_ e5.symm
        simp
      · rw [if_neg h3] at h
        exact absurd h h3
    · rw [if_neg h2] at h; cases h
  · rw [if_neg h1] at h; cases h
end Go.Proofs.Ytoplknankmomcaa
