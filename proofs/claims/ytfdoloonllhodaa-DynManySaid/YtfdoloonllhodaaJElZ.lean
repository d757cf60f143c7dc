/-
Layer 8, package elf: Heads.
Layer 8, package elf: what Segments answers, as plain data.
-/
import Derived.Test.YtfdoloonllhodaaJElY
import Derived.Test.YtfdoloonllhodaaJaE
import Derived.Test.YtfdoloonllhodaaJElD
import Derived.BigQuiet
namespace Go.Proofs.Ytfdoloonllhodaa
open Go Go.RowKit

def HeadsR (w : World) (bs : List UInt8) (e : Ending) (w' : World) : Prop :=
  (∃ s, e = .returned (.tuple #[.int .u32 (((headsN bs).1 : Nat) : Int), Sl.v s, .int .i64 (((headsN bs).2.2 : Nat) : Int)]) ∧ SlH w' s (headsN bs).2.1) ∧ Below w.heap.size w w'
theorem slH_nil (w : World) : SlH w ⟨none, 0, 0⟩ [] := ⟨rfl, ⟨Nat.le_refl _, Nat.zero_le _⟩, fun h => absurd h (Nat.lt_irrefl _)⟩
theorem headsR_bad {w w' : World} {bs : List UInt8} (h : (fileB bs && hdsB bs) = false) (hb : Below w.heap.size w w') : HeadsR w bs (.returned (.tuple #[.int .u32 0, .slice none 0 0, .int .i64 8])) w' := by
  have e : headsN bs = (0, [], 8) := by unfold headsN; rw [h]; rfl
  unfold HeadsR
  rw [e]
  exact ⟨⟨⟨none, 0, 0⟩, rfl, slH_nil _⟩, hb⟩
theorem headsR_ok {w w' : World} {bs : List UInt8} {s : Sl} (h : (fileB bs && hdsB bs) = true) (hs : SlH w' s (hds bs (hN bs))) (hb : Below w.heap.size w w') : HeadsR w bs (.returned (.tuple #[.int .u32 ((nm bs 4 24 : Nat) : Int), Sl.v s, .int .i64 0])) w' := by
  have e : headsN bs = (nm bs 4 24, hds bs (hN bs), 0) := by unfold headsN; rw [if_pos h]
  unfold HeadsR
  rw [e]
  exact ⟨⟨s, rfl, hs⟩, hb⟩
set_option maxRecDepth 100000 in
set_option maxHeartbeats 2000000 in
theorem eheads_any (bs : List UInt8) (A : Option Addr) (n c : Nat) (w : World) (hS : SlA w A n c bs) (hl : bs.length ≤ 100000) :
    Calls Try.prog 25 #[.slice A n c] w fun e w' => HeadsR w bs e w' := by
  have kT := etop_any bs A n c w hS hl
  have hfb := fileB_top bs
  obtain ⟨b, hb⟩ : ∃ x, x = topB bs := ⟨_, rfl⟩
  rw [← hb] at kT hfb
  have HFB : Hid (fileB bs = (b && plB bs)) := Lib.hid hfb
  have HS := Lib.hid hS
  clear hb hfb hS
  go_enter Try.func25, Try.ntmps25
  go_upto_region 2 with fail
  refine kT.mono ?_
  rintro e u ⟨⟨en, p, m, rfl, hT⟩, hb⟩
  rw [show tpC en p m = #[.int .u32 (en : Int), .int .u32 (p : Int), .int .i64 (m : Int)] from rfl]
  clear kT
  go_upto_region 2 with fail
  have hG : Has (u.alloc (.cells #[.int .u32 (en : Int), .int .u32 (p : Int), .int .i64 (m : Int)] 113)) u.heap.size 113 (tpC en p m) := Has.new _ _ _
  replace hb := hb.trans (((Below.refl _ _).alloc (Nat.le_refl _) (.cells #[.int .u32 (en : Int), .int .u32 (p : Int), .int .i64 (m : Int)] 113)).mono hb.size)
  generalize (u.alloc (.cells #[.int .u32 (en : Int), .int .u32 (p : Int), .int .i64 (m : Int)] 113)) = u1 at *
  generalize u.heap.size = gb at *
  cases b with
  | false =>
    clear hT
    go_wp2_with fail
    go_ret3
    exact headsR_bad (by rw [HFB.out]; rfl) hb
  | true =>
    obtain ⟨rfl, rfl, rfl⟩ := hT rfl
    have kH := ehdrs_any bs A n c (nm bs 4 24) u1 (HS.out.below hb) hl
    have HFB2 : Hid ((fileB bs && hdsB bs) = (plB bs && hdsB bs)) := Lib.hid (by rw [HFB.out, Bool.true_and])
    clear HFB hT
    have hGw := Lib.hid hG
    obtain ⟨en, hen⟩ : ∃ x, x = nm bs 4 24 := ⟨_, rfl⟩
    have HEN := Lib.hid hen
    rw [← hen] at hG kH
    clear hen
    go_upto_region 5 with (refine wpList_load_has 113 _ rfl _ rfl rfl 113 _ hG _ Try.underlying113 rfl (infoTP _ _ _) ?_)
    refine kH.mono ?_
    rintro e u2 ⟨⟨s, b2, rfl, hb2, hs⟩, hbb⟩
    have hG2 := hG.after hbb
    have hc0 : u2.cell? ⟨gb, 0, none⟩ = some (.int .u32 (en : Int)) := hG2.cell 0
    have hb3 := below_trans hb (hbb.mono (Nat.le_refl _))
    have HB2 := Lib.hid hb2
    have HSS := Lib.hid hs
    obtain ⟨As, ns, cs, rfl⟩ := s.out
    rw [show Sl.v ⟨As, ns, cs⟩ = .slice As ns cs from rfl]
    clear hb2 hs kH
    cases b2 with
    | false =>
      go_wp2_with fail
      go_ret3
      exact headsR_bad (by rw [HFB2.out, ← HB2.out]) hb3
    | true =>
      go_wp2_with fail
      go_ret3
      rw [HEN.out]
      exact headsR_ok (s := ⟨As, ns, cs⟩) (by rw [HFB2.out, ← HB2.out]) (HSS.out (by trivial)) hb3
end Go.Proofs.Ytfdoloonllhodaa
namespace Go.Proofs.Ytfdoloonllhodaa
open Go Go.RowKit

/-- the segments' side -/
def loadsN (hs : List Hd) : List Hd := hs.filter fun h => decide (h.k = 1)
def dynsN (hs : List Hd) : List Hd := hs.filter fun h => decide (h.k = 2)
def ldB (h : Hd) : Bool := decide (h.d % 4 = 0 ∧ h.m % 4 = 0 ∧ h.m ≠ 0 ∧ h.d + h.m ≤ 4294967292 ∧ h.r ≠ 0 ∧ h.r < 6)
def ldGo : List Hd → Nat → Bool
  | [], _ => true
  | h :: hs, e => ldB h && decide (e ≤ h.d) && ldGo hs (h.d + h.m)
def sgOf (bs : List UInt8) (h : Hd) : Sg := ⟨h.d, h.m, h.r, (bs.drop h.a).take h.f⟩
theorem segX_ldB (h : Hd) (ns e : Nat) : segX h ns e = !(ldB h && decide (e ≤ h.d) && decide (ns ≠ 4)) := by
  unfold segX ldB
  rw [← Bool.decide_and, ← Bool.decide_and, ← decide_not, Bool.eq_iff_iff, decide_eq_true_iff, decide_eq_true_iff]
  omega
theorem segGo_eq (bs : List UInt8) (en : Nat) : ∀ (hs : List Hd) (ss : List Sg) (ds : List Hd) (e : Nat) (a : Bool), (∀ h ∈ hs, h.k = 1 ∨ h.k = 2) → ss.length ≤ 4 →
    segGo bs en hs ss ds e a = if (decide (ss.length + (loadsN hs).length ≤ 4) && ldGo (loadsN hs) e) = true then some (ss ++ (loadsN hs).map (sgOf bs), ds ++ dynsN hs, a || (loadsN hs).any (entB en)) else none
  | [], ss, ds, e, a, _, hl => by
    show some (ss, ds, a) = _
    rw [if_pos (by show (decide (ss.length + 0 ≤ 4) && true) = true; rw [decide_eq_true (by omega)]; rfl)]
    simp [loadsN, dynsN]
  | h :: hs, ss, ds, e, a, hk, hl => by
    have hk' : ∀ h ∈ hs, h.k = 1 ∨ h.k = 2 := fun x hx => hk x (List.mem_cons_of_mem _ hx)
    rcases hk h (List.mem_cons_self ..) with h1 | h2
    · have e1 : loadsN (h :: hs) = h :: loadsN hs := by simp [loadsN, h1]
      have e2 : dynsN (h :: hs) = dynsN hs := by simp [dynsN, h1]
      rw [e1, e2]
      have hx := segX_ldB h ss.length e
      by_cases hb : segX h ss.length e = true
      · rw [segGo_bad (by omega) hb, if_neg]
        rw [hb] at hx
        have h3 : (ldB h && decide (e ≤ h.d) && decide (ss.length ≠ 4)) = false := by
          cases hc : (ldB h && decide (e ≤ h.d) && decide (ss.length ≠ 4))
          · rfl
          · rw [hc] at hx; cases hx
        intro h4
        rw [Bool.and_eq_true] at h4
        obtain ⟨h5, h6⟩ := h4
        have h5 := of_decide_eq_true h5
        rw [List.length_cons] at h5
        rw [show ldGo (h :: loadsN hs) e = (ldB h && decide (e ≤ h.d) && ldGo (loadsN hs) (h.d + h.m)) from rfl, Bool.and_eq_true] at h6
        rw [h6.1, decide_eq_true (show ss.length ≠ 4 by omega)] at h3
        cases h3
      · have hb : segX h ss.length e = false := by cases hc : segX h ss.length e; rfl; exact absurd hc hb
        rw [hb] at hx
        have h3 : (ldB h && decide (e ≤ h.d) && decide (ss.length ≠ 4)) = true := by
          cases hc : (ldB h && decide (e ≤ h.d) && decide (ss.length ≠ 4))
          · rw [hc] at hx; cases hx
          · rfl
        rw [Bool.and_eq_true] at h3
        have h4 := of_decide_eq_true h3.2
        rw [segGo_seg (by omega) hb, segGo_eq bs en hs _ _ _ _ hk' (by rw [List.length_append]; show ss.length + 1 ≤ 4; omega)]
        rw [show ldGo (h :: loadsN hs) e = (ldB h && decide (e ≤ h.d) && ldGo (loadsN hs) (h.d + h.m)) from rfl, h3.1, Bool.true_and, List.length_append, List.length_cons, List.length_cons, List.length_nil, show ss.length + (0 + 1) + (loadsN hs).length = ss.length + ((loadsN hs).length + 1) by omega]
        simp [sgOf, Bool.or_assoc]
    · have e1 : loadsN (h :: hs) = loadsN hs := by simp [loadsN, h2]
      have e2 : dynsN (h :: hs) = h :: dynsN hs := by simp [dynsN, h2]
      rw [e1, e2, segGo_dyn h2, segGo_eq bs en hs _ _ _ _ hk' hl]
      simp
/-- the program can be loaded -/
def canB (en : Nat) (hs : List Hd) : Bool := decide ((loadsN hs).length ≤ 4) && ldGo (loadsN hs) 0 && (loadsN hs).any (entB en) && decide ((dynsN hs).length ≤ 1)
theorem segsN_eq {bs : List UInt8} (h0 : (headsN bs).2.2 = 0) : segsN bs = if canB (headsN bs).1 (headsN bs).2.1 = true then ((headsN bs).1, (loadsN (headsN bs).2.1).map (sgOf bs), dynsN (headsN bs).2.1, 0) else (0, [], [], 9) := by
  have hk : ∀ h ∈ (headsN bs).2.1, h.k = 1 ∨ h.k = 2 := fun h hh => (heads_in hh).1
  have e := segGo_eq bs (headsN bs).1 (headsN bs).2.1 [] [] 0 false hk (by decide)
  unfold segsN
  rw [if_pos h0, e]
  generalize (headsN bs).1 = en
  generalize (headsN bs).2.1 = hs
  unfold canB
  rw [show ([] : List Sg).length + (loadsN hs).length = (loadsN hs).length from Nat.zero_add _]
  cases hA : (decide ((loadsN hs).length ≤ 4) && ldGo (loadsN hs) 0) with
  | false => simp [segEnd]
  | true =>
    rw [if_pos rfl]
    unfold segEnd
    dsimp only
    rw [List.nil_append, List.nil_append, Bool.false_or, Bool.true_and]
    cases hB : (loadsN hs).any (entB en) with
    | false => simp
    | true =>
      by_cases hC : 1 < (dynsN hs).length
      · rw [if_pos (.inl hC), decide_eq_false (by omega)]; rfl
      · rw [if_neg (by simp; omega), decide_eq_true (by omega)]; rfl
end Go.Proofs.Ytfdoloonllhodaa
