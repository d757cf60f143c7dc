/-
Layer 15: the reference's Write.
-/
import Derived.Test.YtgpofoggfifnjaaGreatDoorJAr
namespace Go.Proofs.YtgpofoggfifnjaaGreatDoor.Cs
open Go Go.RowKit

theorem wu64 (z : Nat) (h : z < 18446744073709551616) : IntKind.u64.wrap (z : Int) = (z : Int) := by
  have h2 : (z : Int) % 18446744073709551616 = (z : Int) := by omega
  simpa [IntKind.wrap, IntKind.signed, IntKind.bits] using h2
theorem tdN (x k : Nat) : (x : Int).tdiv (k : Int) = ((x / k : Nat) : Int) := by rw [Int.tdiv_eq_ediv_of_nonneg (by omega)]; rfl
theorem tmN (x k : Nat) : (x : Int).tmod (k : Int) = ((x % k : Nat) : Int) := by rw [Int.tmod_eq_emod_of_nonneg (by omega)]; rfl
abbrev hP (h : Nat) : Value := .pointer (some ⟨h, 0, none⟩)
set_option maxRecDepth 100000 in
set_option maxHeartbeats 2000000 in
theorem rw_769 (s : St) (x h mb : Nat) (w : World) (H : Ref w h mb s) (_hx : x < 4294967296) : Calls Tryz.prog 27 #[hP h, .int .i64 769, .int .i64 (x : Int)] w fun e w' => e = .returned (.bool true) ∧ Ref w' h mb s ∧ Only (SR h mb) w w' := by
  clear _hx
  go_enter Tryz.func27, Tryz.ntmps27
  go_wp2_with fail
  go_ret
  exact ⟨rfl, H, Only.refl _ _⟩
set_option maxRecDepth 100000 in
set_option maxHeartbeats 2000000 in
theorem rw_836 (s : St) (x h mb : Nat) (w : World) (H : Ref w h mb s) (_hx : x < 4294967296) : Calls Tryz.prog 27 #[hP h, .int .i64 836, .int .i64 (x : Int)] w fun e w' => e = .returned (.bool true) ∧ Ref w' h mb s ∧ Only (SR h mb) w w' := by
  clear _hx
  go_enter Tryz.func27, Tryz.ntmps27
  go_wp2_with fail
  go_ret
  exact ⟨rfl, H, Only.refl _ _⟩
set_option maxRecDepth 100000 in
set_option maxHeartbeats 2000000 in
theorem rw_2816 (s : St) (x h mb : Nat) (w : World) (H : Ref w h mb s) (hx : x < 4294967296) : Calls Tryz.prog 27 #[hP h, .int .i64 2816, .int .i64 (x : Int)] w fun e w' => e = .returned (.bool true) ∧ Ref w' h mb { s with cyc := s.cyc / 4294967296 * 4294967296 + x } ∧ Only (SR h mb) w w' := by
  have hc : w.cell? ⟨h, 18, none⟩ = some (.int .u64 (s.cyc : Int)) := H.blk.cellTab 18 (by decide)
  have hf : w.frozen? ⟨h, 18, none⟩ = false := H.blk.free 18
  have hlt := H.ok.cyc
  have hltI : (s.cyc : Int) < 18446744073709551616 := by omega
  have HR := Lib.hid (H.cyc (s.cyc / 4294967296 * 4294967296 + x) (by omega))
  obtain ⟨v, hv⟩ : ∃ v, v = s.cyc / 4294967296 * 4294967296 + x := ⟨_, rfl⟩
  rw [← hv] at HR
  rw [show ({ s with cyc := s.cyc / 4294967296 * 4294967296 + x } : St) = { s with cyc := v } by rw [hv]]
  obtain ⟨q, hq⟩ : ∃ q, q = s.cyc / 4294967296 := ⟨_, rfl⟩
  obtain ⟨z, hz⟩ : ∃ z, z = q * 4294967296 := ⟨_, rfl⟩
  have e1 : (s.cyc : Int) / 4294967296 = (q : Int) := by omega
  have e2 : (q : Int) * 4294967296 = (z : Int) := by omega
  have e3 : (z : Int) + (x : Int) = (v : Int) := by rw [hv, hz]; omega
  have w1 := wu64 z (by omega)
  have w2 := wu64 x (by omega)
  have w3 := wu64 v (by omega)
  have HV := Lib.hid hv
  have HQ := Lib.hid hq
  have HZ := Lib.hid hz
  clear hv hq hz hlt
  go_enter Tryz.func27, Tryz.ntmps27
  go_wp2_with fail
  go_ret
  exact ⟨rfl, HR.out, Only.setCell _ (Or.inl rfl) _⟩
set_option maxRecDepth 100000 in
set_option maxHeartbeats 2000000 in
theorem rw_2944 (s : St) (x h mb : Nat) (w : World) (H : Ref w h mb s) (hx : x < 4294967296) : Calls Tryz.prog 27 #[hP h, .int .i64 2944, .int .i64 (x : Int)] w fun e w' => e = .returned (.bool true) ∧ Ref w' h mb { s with cyc := s.cyc % 4294967296 + x * 4294967296 } ∧ Only (SR h mb) w w' := by
  have hc : w.cell? ⟨h, 18, none⟩ = some (.int .u64 (s.cyc : Int)) := H.blk.cellTab 18 (by decide)
  have hf : w.frozen? ⟨h, 18, none⟩ = false := H.blk.free 18
  have hlt := H.ok.cyc
  have hltI : (s.cyc : Int) < 18446744073709551616 := by omega
  have HR := Lib.hid (H.cyc (s.cyc % 4294967296 + x * 4294967296) (by omega))
  obtain ⟨v, hv⟩ : ∃ v, v = s.cyc % 4294967296 + x * 4294967296 := ⟨_, rfl⟩
  rw [← hv] at HR
  rw [show ({ s with cyc := s.cyc % 4294967296 + x * 4294967296 } : St) = { s with cyc := v } by rw [hv]]
  obtain ⟨q, hq⟩ : ∃ q, q = s.cyc % 4294967296 := ⟨_, rfl⟩
  obtain ⟨z, hz⟩ : ∃ z, z = x * 4294967296 := ⟨_, rfl⟩
  have e1 : (s.cyc : Int) % 4294967296 = (q : Int) := by omega
  have e2 : (x : Int) * 4294967296 = (z : Int) := by omega
  have e3 : (q : Int) + (z : Int) = (v : Int) := by rw [hv, hz]; omega
  have w1 := wu64 z (by omega)
  have w2 := wu64 x (by omega)
  have w3 := wu64 v (by omega)
  have HV := Lib.hid hv
  have HQ := Lib.hid hq
  have HZ := Lib.hid hz
  clear hv hq hz hlt
  go_enter Tryz.func27, Tryz.ntmps27
  go_wp2_with fail
  go_ret
  exact ⟨rfl, HR.out, Only.setCell _ (Or.inl rfl) _⟩
set_option maxRecDepth 100000 in
set_option maxHeartbeats 2000000 in
theorem rw_2818 (s : St) (x h mb : Nat) (w : World) (H : Ref w h mb s) (hx : x < 4294967296) : Calls Tryz.prog 27 #[hP h, .int .i64 2818, .int .i64 (x : Int)] w fun e w' => e = .returned (.bool true) ∧ Ref w' h mb { s with ret := s.ret / 4294967296 * 4294967296 + x } ∧ Only (SR h mb) w w' := by
  have hc : w.cell? ⟨h, 19, none⟩ = some (.int .u64 (s.ret : Int)) := H.blk.cellTab 19 (by decide)
  have hf : w.frozen? ⟨h, 19, none⟩ = false := H.blk.free 19
  have hlt := H.ok.ret
  have hltI : (s.ret : Int) < 18446744073709551616 := by omega
  have HR := Lib.hid (H.ret (s.ret / 4294967296 * 4294967296 + x) (by omega))
  obtain ⟨v, hv⟩ : ∃ v, v = s.ret / 4294967296 * 4294967296 + x := ⟨_, rfl⟩
  rw [← hv] at HR
  rw [show ({ s with ret := s.ret / 4294967296 * 4294967296 + x } : St) = { s with ret := v } by rw [hv]]
  obtain ⟨q, hq⟩ : ∃ q, q = s.ret / 4294967296 := ⟨_, rfl⟩
  obtain ⟨z, hz⟩ : ∃ z, z = q * 4294967296 := ⟨_, rfl⟩
  have e1 : (s.ret : Int) / 4294967296 = (q : Int) := by omega
  have e2 : (q : Int) * 4294967296 = (z : Int) := by omega
  have e3 : (z : Int) + (x : Int) = (v : Int) := by rw [hv, hz]; omega
  have w1 := wu64 z (by omega)
  have w2 := wu64 x (by omega)
  have w3 := wu64 v (by omega)
  have HV := Lib.hid hv
  have HQ := Lib.hid hq
  have HZ := Lib.hid hz
  clear hv hq hz hlt
  go_enter Tryz.func27, Tryz.ntmps27
  go_wp2_with fail
  go_ret
  exact ⟨rfl, HR.out, Only.setCell _ (Or.inl rfl) _⟩
set_option maxRecDepth 100000 in
set_option maxHeartbeats 2000000 in
theorem rw_2946 (s : St) (x h mb : Nat) (w : World) (H : Ref w h mb s) (hx : x < 4294967296) : Calls Tryz.prog 27 #[hP h, .int .i64 2946, .int .i64 (x : Int)] w fun e w' => e = .returned (.bool true) ∧ Ref w' h mb { s with ret := s.ret % 4294967296 + x * 4294967296 } ∧ Only (SR h mb) w w' := by
  have hc : w.cell? ⟨h, 19, none⟩ = some (.int .u64 (s.ret : Int)) := H.blk.cellTab 19 (by decide)
  have hf : w.frozen? ⟨h, 19, none⟩ = false := H.blk.free 19
  have hlt := H.ok.ret
  have hltI : (s.ret : Int) < 18446744073709551616 := by omega
  have HR := Lib.hid (H.ret (s.ret % 4294967296 + x * 4294967296) (by omega))
  obtain ⟨v, hv⟩ : ∃ v, v = s.ret % 4294967296 + x * 4294967296 := ⟨_, rfl⟩
  rw [← hv] at HR
  rw [show ({ s with ret := s.ret % 4294967296 + x * 4294967296 } : St) = { s with ret := v } by rw [hv]]
  obtain ⟨q, hq⟩ : ∃ q, q = s.ret % 4294967296 := ⟨_, rfl⟩
  obtain ⟨z, hz⟩ : ∃ z, z = x * 4294967296 := ⟨_, rfl⟩
  have e1 : (s.ret : Int) % 4294967296 = (q : Int) := by omega
  have e2 : (x : Int) * 4294967296 = (z : Int) := by omega
  have e3 : (q : Int) + (z : Int) = (v : Int) := by rw [hv, hz]; omega
  have w1 := wu64 z (by omega)
  have w2 := wu64 x (by omega)
  have w3 := wu64 v (by omega)
  have HV := Lib.hid hv
  have HQ := Lib.hid hq
  have HZ := Lib.hid hz
  clear hv hq hz hlt
  go_enter Tryz.func27, Tryz.ntmps27
  go_wp2_with fail
  go_ret
  exact ⟨rfl, HR.out, Only.setCell _ (Or.inl rfl) _⟩
set_option maxRecDepth 100000 in
set_option maxHeartbeats 2000000 in
theorem rw_768 (s : St) (x h mb : Nat) (w : World) (H : Ref w h mb s) (hx : x < 4294967296) : Calls Tryz.prog 27 #[hP h, .int .i64 768, .int .i64 (x : Int)] w fun e w' => e = .returned (.bool true) ∧ Ref w' h mb { s with r := upd s.r 768 (maskR 768 x) } ∧ Only (SR h mb) w w' := by
  have hc : w.cell? ⟨h, 1, none⟩ = some (.map (some mb)) := H.blk.cellTab 1 (by decide)
  have hlk := H.map.look_ok (t := 768) (by decide)
  rw [rM_in s 768 rfl] at hlk
  dsimp only [Option.getD_some, Option.isSome_some] at hlk
  rw [show ((768 : Nat) : Int) = 768 from rfl] at hlk
  generalize s.r 768 = y at hlk
  obtain ⟨v, hv⟩ : ∃ v, v = maskR 768 x := ⟨_, rfl⟩
  have hvl : v < 4294967296 := by rw [hv]; exact maskR_lt _ x hx
  have hok : True → ({ s with r := upd s.r 768 v } : St).Ok := fun _ => writeC_ok s _ 768 x H.ok hx (by rw [hv]; rfl)
  rw [← hv]
  have fa : (x : Int).tdiv 2048 = ((x / 2048 : Nat) : Int) := tdN x 2048
  obtain ⟨a, qa⟩ : ∃ y, y = x / 2048 := ⟨_, rfl⟩
  rw [← qa] at fa
  have fb : (a : Int).tmod 4 = ((a % 4 : Nat) : Int) := tmN a 4
  obtain ⟨b, qb⟩ : ∃ y, y = a % 4 := ⟨_, rfl⟩
  rw [← qb] at fb
  have fc : (x : Int).tdiv 8 = ((x / 8 : Nat) : Int) := tdN x 8
  obtain ⟨c, qc⟩ : ∃ y, y = x / 8 := ⟨_, rfl⟩
  rw [← qc] at fc
  have fd : (c : Int).tmod 2 = ((c % 2 : Nat) : Int) := tmN c 2
  obtain ⟨d, qd⟩ : ∃ y, y = c % 2 := ⟨_, rfl⟩
  rw [← qd] at fd
  have fe : (d : Int) * 8 = ((d * 8 : Nat) : Int) := (by omega)
  obtain ⟨e, qe⟩ : ∃ y, y = d * 8 := ⟨_, rfl⟩
  rw [← qe] at fe
  have ff : (x : Int).tdiv 128 = ((x / 128 : Nat) : Int) := tdN x 128
  obtain ⟨f, qf⟩ : ∃ y, y = x / 128 := ⟨_, rfl⟩
  rw [← qf] at ff
  have fg : (f : Int).tmod 2 = ((f % 2 : Nat) : Int) := tmN f 2
  obtain ⟨g, qg⟩ : ∃ y, y = f % 2 := ⟨_, rfl⟩
  rw [← qg] at fg
  have fi : (g : Int) * 128 = ((g * 128 : Nat) : Int) := (by omega)
  obtain ⟨i, qi⟩ : ∃ y, y = g * 128 := ⟨_, rfl⟩
  rw [← qi] at fi
  have la : (a : Int) < 4294967296 := by omega
  have lb : (b : Int) < 4294967296 := by omega
  have lc : (c : Int) < 4294967296 := by omega
  have ld : (d : Int) < 4294967296 := by omega
  have le : (e : Int) < 4294967296 := by omega
  have lf : (f : Int) < 4294967296 := by omega
  have lg : (g : Int) < 4294967296 := by omega
  have li : (i : Int) < 4294967296 := by omega
  have hm4 : b = 0 ∨ b = 1 ∨ b = 2 ∨ b = 3 := by omega
  have hve : v = e + i + (if b = 1 ∨ b = 2 then 0 else b) * 2048 := by rw [hv, qe, qd, qc, qi, qg, qf, qb, qa]; rfl
  have sA : (e : Int) + (i : Int) = ((e + i : Nat) : Int) := by omega
  have eil : e + i ≤ 136 := by omega
  have Qa := Lib.hid qa
  have Qb := Lib.hid qb
  have Qc := Lib.hid qc
  have Qd := Lib.hid qd
  have Qe := Lib.hid qe
  have Qf := Lib.hid qf
  have Qg := Lib.hid qg
  have Qi := Lib.hid qi
  clear qa qb qc qd qe qf qg qi
  rcases hm4 with rfl | rfl | rfl | rfl
  · have sB : ((e + i : Nat) : Int) = (v : Int) := by rw [hve]; simp
    have HE := Lib.hid hve
    have HV := Lib.hid hv
    clear hve hv
    obtain ⟨y2, hy2⟩ : ∃ y, y = e + i := ⟨_, rfl⟩
    rw [← hy2] at sA sB eil
    have HY := Lib.hid hy2
    clear hy2
    go_enter Tryz.func27, Tryz.ntmps27
    go_wp2_with (
      refine wp_mapput rfl _ _ _ rfl rfl H.map 768 v rfl rfl (by decide) hvl (by decide) 24 (by rw [rM_in s 768 rfl]; exact Nat.le_refl _) ?_
      intro w3 hM3 hgr3
      go_frame)
    go_ret
    exact ⟨rfl, H.reg 768 v rfl hM3 hgr3 (hok trivial), Only.of_grown hgr3 fun l e => by injection e with e; exact Or.inr e.symm⟩
  · have sB : ((e + i : Nat) : Int) = (v : Int) := by rw [hve]; simp
    have HE := Lib.hid hve
    have HV := Lib.hid hv
    clear hve hv
    obtain ⟨y2, hy2⟩ : ∃ y, y = e + i := ⟨_, rfl⟩
    rw [← hy2] at sA sB eil
    have HY := Lib.hid hy2
    clear hy2
    go_enter Tryz.func27, Tryz.ntmps27
    go_wp2_with (
      refine wp_mapput rfl _ _ _ rfl rfl H.map 768 v rfl rfl (by decide) hvl (by decide) 24 (by rw [rM_in s 768 rfl]; exact Nat.le_refl _) ?_
      intro w3 hM3 hgr3
      go_frame)
    go_ret
    exact ⟨rfl, H.reg 768 v rfl hM3 hgr3 (hok trivial), Only.of_grown hgr3 fun l e => by injection e with e; exact Or.inr e.symm⟩
  · have sB : ((e + i : Nat) : Int) = (v : Int) := by rw [hve]; simp
    have HE := Lib.hid hve
    have HV := Lib.hid hv
    clear hve hv
    obtain ⟨y2, hy2⟩ : ∃ y, y = e + i := ⟨_, rfl⟩
    rw [← hy2] at sA sB eil
    have HY := Lib.hid hy2
    clear hy2
    go_enter Tryz.func27, Tryz.ntmps27
    go_wp2_with (
      refine wp_mapput rfl _ _ _ rfl rfl H.map 768 v rfl rfl (by decide) hvl (by decide) 24 (by rw [rM_in s 768 rfl]; exact Nat.le_refl _) ?_
      intro w3 hM3 hgr3
      go_frame)
    go_ret
    exact ⟨rfl, H.reg 768 v rfl hM3 hgr3 (hok trivial), Only.of_grown hgr3 fun l e => by injection e with e; exact Or.inr e.symm⟩
  · have sB : ((e + i : Nat) : Int) + 6144 = (v : Int) := by rw [hve]; simp
    have HE := Lib.hid hve
    have HV := Lib.hid hv
    clear hve hv
    obtain ⟨y2, hy2⟩ : ∃ y, y = e + i := ⟨_, rfl⟩
    rw [← hy2] at sA sB eil
    have HY := Lib.hid hy2
    clear hy2
    go_enter Tryz.func27, Tryz.ntmps27
    go_wp2_with (
      refine wp_mapput rfl _ _ _ rfl rfl H.map 768 v rfl rfl (by decide) hvl (by decide) 24 (by rw [rM_in s 768 rfl]; exact Nat.le_refl _) ?_
      intro w3 hM3 hgr3
      go_frame)
    go_ret
    exact ⟨rfl, H.reg 768 v rfl hM3 hgr3 (hok trivial), Only.of_grown hgr3 fun l e => by injection e with e; exact Or.inr e.symm⟩
set_option maxRecDepth 100000 in
set_option maxHeartbeats 2000000 in
theorem rw_772 (s : St) (x h mb : Nat) (w : World) (H : Ref w h mb s) (hx : x < 4294967296) : Calls Tryz.prog 27 #[hP h, .int .i64 772, .int .i64 (x : Int)] w fun e w' => e = .returned (.bool true) ∧ Ref w' h mb { s with r := upd s.r 772 (maskR 772 x) } ∧ Only (SR h mb) w w' := by
  have hc : w.cell? ⟨h, 1, none⟩ = some (.map (some mb)) := H.blk.cellTab 1 (by decide)
  have hlk := H.map.look_ok (t := 772) (by decide)
  rw [rM_in s 772 rfl] at hlk
  dsimp only [Option.getD_some, Option.isSome_some] at hlk
  rw [show ((772 : Nat) : Int) = 772 from rfl] at hlk
  generalize s.r 772 = y at hlk
  obtain ⟨v, hv⟩ : ∃ v, v = maskR 772 x := ⟨_, rfl⟩
  have hvl : v < 4294967296 := by rw [hv]; exact maskR_lt _ x hx
  have hok : True → ({ s with r := upd s.r 772 v } : St).Ok := fun _ => writeC_ok s _ 772 x H.ok hx (by rw [hv]; rfl)
  rw [← hv]
  have ff : (x : Int).tdiv 128 = ((x / 128 : Nat) : Int) := tdN x 128
  obtain ⟨f, qf⟩ : ∃ y, y = x / 128 := ⟨_, rfl⟩
  rw [← qf] at ff
  have fg : (f : Int).tmod 2 = ((f % 2 : Nat) : Int) := tmN f 2
  obtain ⟨g, qg⟩ : ∃ y, y = f % 2 := ⟨_, rfl⟩
  rw [← qg] at fg
  have fi : (g : Int) * 128 = ((g * 128 : Nat) : Int) := (by omega)
  obtain ⟨i, qi⟩ : ∃ y, y = g * 128 := ⟨_, rfl⟩
  rw [← qi] at fi
  have lf : (f : Int) < 4294967296 := by omega
  have lg : (g : Int) < 4294967296 := by omega
  have li : (i : Int) < 4294967296 := by omega
  have hve : v = i := by rw [hv, qi, qg, qf]; rfl
  subst hve
  have Qf := Lib.hid qf
  have Qg := Lib.hid qg
  have Qi := Lib.hid qi
  clear qf qg qi
  have HV := Lib.hid hv
  clear hv
  go_enter Tryz.func27, Tryz.ntmps27
  go_wp2_with (
    refine wp_mapput rfl _ _ _ rfl rfl H.map 772 v rfl rfl (by decide) hvl (by decide) 24 (by rw [rM_in s 772 rfl]; exact Nat.le_refl _) ?_
    intro w3 hM3 hgr3
    go_frame)
  go_ret
  exact ⟨rfl, H.reg 772 v rfl hM3 hgr3 (hok trivial), Only.of_grown hgr3 fun l e => by injection e with e; exact Or.inr e.symm⟩
set_option maxRecDepth 100000 in
set_option maxHeartbeats 2000000 in
theorem rw_773 (s : St) (x h mb : Nat) (w : World) (H : Ref w h mb s) (hx : x < 4294967296) : Calls Tryz.prog 27 #[hP h, .int .i64 773, .int .i64 (x : Int)] w fun e w' => e = .returned (.bool true) ∧ Ref w' h mb { s with r := upd s.r 773 (maskR 773 x) } ∧ Only (SR h mb) w w' := by
  have hc : w.cell? ⟨h, 1, none⟩ = some (.map (some mb)) := H.blk.cellTab 1 (by decide)
  have hlk := H.map.look_ok (t := 773) (by decide)
  rw [rM_in s 773 rfl] at hlk
  dsimp only [Option.getD_some, Option.isSome_some] at hlk
  rw [show ((773 : Nat) : Int) = 773 from rfl] at hlk
  generalize s.r 773 = y at hlk
  obtain ⟨v, hv⟩ : ∃ v, v = maskR 773 x := ⟨_, rfl⟩
  have hvl : v < 4294967296 := by rw [hv]; exact maskR_lt _ x hx
  have hok : True → ({ s with r := upd s.r 773 v } : St).Ok := fun _ => writeC_ok s _ 773 x H.ok hx (by rw [hv]; rfl)
  rw [← hv]
  have fa : (x : Int).tmod 4 = ((x % 4 : Nat) : Int) := tmN x 4
  obtain ⟨a, qa⟩ : ∃ y, y = x % 4 := ⟨_, rfl⟩
  rw [← qa] at fa
  have la : (a : Int) < 4294967296 := by omega
  have hve : v = x - a := by rw [hv, qa]; rfl
  have sA : (x : Int) - (a : Int) = (v : Int) := by omega
  have Qa := Lib.hid qa
  clear qa
  have HE := Lib.hid hve
  clear hve
  have HV := Lib.hid hv
  clear hv
  go_enter Tryz.func27, Tryz.ntmps27
  go_wp2_with (
    refine wp_mapput rfl _ _ _ rfl rfl H.map 773 v rfl rfl (by decide) hvl (by decide) 24 (by rw [rM_in s 773 rfl]; exact Nat.le_refl _) ?_
    intro w3 hM3 hgr3
    go_frame)
  go_ret
  exact ⟨rfl, H.reg 773 v rfl hM3 hgr3 (hok trivial), Only.of_grown hgr3 fun l e => by injection e with e; exact Or.inr e.symm⟩
set_option maxRecDepth 100000 in
set_option maxHeartbeats 2000000 in
theorem rw_832 (s : St) (x h mb : Nat) (w : World) (H : Ref w h mb s) (hx : x < 4294967296) : Calls Tryz.prog 27 #[hP h, .int .i64 832, .int .i64 (x : Int)] w fun e w' => e = .returned (.bool true) ∧ Ref w' h mb { s with r := upd s.r 832 (maskR 832 x) } ∧ Only (SR h mb) w w' := by
  have hc : w.cell? ⟨h, 1, none⟩ = some (.map (some mb)) := H.blk.cellTab 1 (by decide)
  have hlk := H.map.look_ok (t := 832) (by decide)
  rw [rM_in s 832 rfl] at hlk
  dsimp only [Option.getD_some, Option.isSome_some] at hlk
  rw [show ((832 : Nat) : Int) = 832 from rfl] at hlk
  generalize s.r 832 = y at hlk
  obtain ⟨v, hv⟩ : ∃ v, v = maskR 832 x := ⟨_, rfl⟩
  have hvl : v < 4294967296 := by rw [hv]; exact maskR_lt _ x hx
  have hok : True → ({ s with r := upd s.r 832 v } : St).Ok := fun _ => writeC_ok s _ 832 x H.ok hx (by rw [hv]; rfl)
  rw [← hv]
  have hve : v = x := hv
  subst hve
  have HV := Lib.hid hv
  clear hv
  go_enter Tryz.func27, Tryz.ntmps27
  go_wp2_with (
    refine wp_mapput rfl _ _ _ rfl rfl H.map 832 v rfl rfl (by decide) hvl (by decide) 24 (by rw [rM_in s 832 rfl]; exact Nat.le_refl _) ?_
    intro w3 hM3 hgr3
    go_frame)
  go_ret
  exact ⟨rfl, H.reg 832 v rfl hM3 hgr3 (hok trivial), Only.of_grown hgr3 fun l e => by injection e with e; exact Or.inr e.symm⟩
set_option maxRecDepth 100000 in
set_option maxHeartbeats 2000000 in
theorem rw_833 (s : St) (x h mb : Nat) (w : World) (H : Ref w h mb s) (hx : x < 4294967296) : Calls Tryz.prog 27 #[hP h, .int .i64 833, .int .i64 (x : Int)] w fun e w' => e = .returned (.bool true) ∧ Ref w' h mb { s with r := upd s.r 833 (maskR 833 x) } ∧ Only (SR h mb) w w' := by
  have hc : w.cell? ⟨h, 1, none⟩ = some (.map (some mb)) := H.blk.cellTab 1 (by decide)
  have hlk := H.map.look_ok (t := 833) (by decide)
  rw [rM_in s 833 rfl] at hlk
  dsimp only [Option.getD_some, Option.isSome_some] at hlk
  rw [show ((833 : Nat) : Int) = 833 from rfl] at hlk
  generalize s.r 833 = y at hlk
  obtain ⟨v, hv⟩ : ∃ v, v = maskR 833 x := ⟨_, rfl⟩
  have hvl : v < 4294967296 := by rw [hv]; exact maskR_lt _ x hx
  have hok : True → ({ s with r := upd s.r 833 v } : St).Ok := fun _ => writeC_ok s _ 833 x H.ok hx (by rw [hv]; rfl)
  rw [← hv]
  have fa : (x : Int).tmod 4 = ((x % 4 : Nat) : Int) := tmN x 4
  obtain ⟨a, qa⟩ : ∃ y, y = x % 4 := ⟨_, rfl⟩
  rw [← qa] at fa
  have la : (a : Int) < 4294967296 := by omega
  have hve : v = x - a := by rw [hv, qa]; rfl
  have sA : (x : Int) - (a : Int) = (v : Int) := by omega
  have Qa := Lib.hid qa
  clear qa
  have HE := Lib.hid hve
  clear hve
  have HV := Lib.hid hv
  clear hv
  go_enter Tryz.func27, Tryz.ntmps27
  go_wp2_with (
    refine wp_mapput rfl _ _ _ rfl rfl H.map 833 v rfl rfl (by decide) hvl (by decide) 24 (by rw [rM_in s 833 rfl]; exact Nat.le_refl _) ?_
    intro w3 hM3 hgr3
    go_frame)
  go_ret
  exact ⟨rfl, H.reg 833 v rfl hM3 hgr3 (hok trivial), Only.of_grown hgr3 fun l e => by injection e with e; exact Or.inr e.symm⟩
set_option maxRecDepth 100000 in
set_option maxHeartbeats 2000000 in
theorem rw_834 (s : St) (x h mb : Nat) (w : World) (H : Ref w h mb s) (hx : x < 4294967296) : Calls Tryz.prog 27 #[hP h, .int .i64 834, .int .i64 (x : Int)] w fun e w' => e = .returned (.bool true) ∧ Ref w' h mb { s with r := upd s.r 834 (maskR 834 x) } ∧ Only (SR h mb) w w' := by
  have hc : w.cell? ⟨h, 1, none⟩ = some (.map (some mb)) := H.blk.cellTab 1 (by decide)
  have hlk := H.map.look_ok (t := 834) (by decide)
  rw [rM_in s 834 rfl] at hlk
  dsimp only [Option.getD_some, Option.isSome_some] at hlk
  rw [show ((834 : Nat) : Int) = 834 from rfl] at hlk
  generalize s.r 834 = y at hlk
  obtain ⟨v, hv⟩ : ∃ v, v = maskR 834 x := ⟨_, rfl⟩
  have hvl : v < 4294967296 := by rw [hv]; exact maskR_lt _ x hx
  have hok : True → ({ s with r := upd s.r 834 v } : St).Ok := fun _ => writeC_ok s _ 834 x H.ok hx (by rw [hv]; rfl)
  rw [← hv]
  have hve : v = x := hv
  subst hve
  have HV := Lib.hid hv
  clear hv
  go_enter Tryz.func27, Tryz.ntmps27
  go_wp2_with (
    refine wp_mapput rfl _ _ _ rfl rfl H.map 834 v rfl rfl (by decide) hvl (by decide) 24 (by rw [rM_in s 834 rfl]; exact Nat.le_refl _) ?_
    intro w3 hM3 hgr3
    go_frame)
  go_ret
  exact ⟨rfl, H.reg 834 v rfl hM3 hgr3 (hok trivial), Only.of_grown hgr3 fun l e => by injection e with e; exact Or.inr e.symm⟩
set_option maxRecDepth 100000 in
set_option maxHeartbeats 2000000 in
theorem rw_835 (s : St) (x h mb : Nat) (w : World) (H : Ref w h mb s) (hx : x < 4294967296) : Calls Tryz.prog 27 #[hP h, .int .i64 835, .int .i64 (x : Int)] w fun e w' => e = .returned (.bool true) ∧ Ref w' h mb { s with r := upd s.r 835 (maskR 835 x) } ∧ Only (SR h mb) w w' := by
  have hc : w.cell? ⟨h, 1, none⟩ = some (.map (some mb)) := H.blk.cellTab 1 (by decide)
  have hlk := H.map.look_ok (t := 835) (by decide)
  rw [rM_in s 835 rfl] at hlk
  dsimp only [Option.getD_some, Option.isSome_some] at hlk
  rw [show ((835 : Nat) : Int) = 835 from rfl] at hlk
  generalize s.r 835 = y at hlk
  obtain ⟨v, hv⟩ : ∃ v, v = maskR 835 x := ⟨_, rfl⟩
  have hvl : v < 4294967296 := by rw [hv]; exact maskR_lt _ x hx
  have hok : True → ({ s with r := upd s.r 835 v } : St).Ok := fun _ => writeC_ok s _ 835 x H.ok hx (by rw [hv]; rfl)
  rw [← hv]
  have hve : v = x := hv
  subst hve
  have HV := Lib.hid hv
  clear hv
  go_enter Tryz.func27, Tryz.ntmps27
  go_wp2_with (
    refine wp_mapput rfl _ _ _ rfl rfl H.map 835 v rfl rfl (by decide) hvl (by decide) 24 (by rw [rM_in s 835 rfl]; exact Nat.le_refl _) ?_
    intro w3 hM3 hgr3
    go_frame)
  go_ret
  exact ⟨rfl, H.reg 835 v rfl hM3 hgr3 (hok trivial), Only.of_grown hgr3 fun l e => by injection e with e; exact Or.inr e.symm⟩
end Go.Proofs.YtgpofoggfifnjaaGreatDoor.Cs
