/-
  ClrPasses' walk. (Printed by wip/gen/clrpasses.py.)
-/
import Derived.Test.YteokeieddapjhaaClrPlay
namespace Go.Proofs.Yteokeieddapjhaa.clrPasses
set_option linter.unusedVariables false
set_option linter.unusedSimpArgs false
set_option maxRecDepth 100000
open Go.RowKit Go.Lib Go.Proofs.Yteokeieddapjhaa.Clr

/-- a first report -/
def one (f t x : Int) : BS := (bnew.1.set f.toNat (some (t, x)), f)
theorem la_new (r : Int) : la bnew.1 r = none := by
  cases e : la bnew.1 r with
  | none => rfl
  | some q =>
    obtain ⟨h1, h2⟩ := la_some fit_new e
    unfold la at e
    rw [if_pos h1.1] at e
    unfold sat bnew at e
    simp only [List.getElem?_replicate] at e
    split at e <;> simp at e
theorem cl_new : cl bnew = none := la_new _
theorem take_one (lim f t x : Int) (hl : 1 ≤ lim) (hr : isR f) (ht : isT t) : btake bnew lim f t x t = (one f t x, 0) := by
  unfold btake
  rw [if_pos ⟨hr, ht, ht⟩, if_neg (fun h => by
    rcases h with h | h | ⟨q, h, _⟩
    · omega
    · omega
    · rw [la_new] at h; simp at h)]
  unfold put one
  rw [if_pos (show limits bnew x from fun q h => by rw [cl_new] at h; simp at h)]
theorem cl_one (f t x : Int) (hr : isR f) : cl (one f t x) = some (t, x) := by
  unfold cl one
  simp only
  rw [la_set hr fit_new.1, if_pos rfl]
theorem pass_yes (lim f t x now : Int) (hr : isR f) (h : t + lim < now) : ∃ s, bpass (one f t x) lim now = (s, true) ∧ cl s = none := by
  refine ⟨((one f t x).1.set f.toNat none, f), ?_, ?_⟩
  · unfold bpass
    rw [cl_one f t x hr]
    simp only
    rw [if_pos h]
    have hs : (la (one f t x).1 (one f t x).2).isSome = true := by
      have := cl_one f t x hr
      unfold cl at this
      rw [this]
      rfl
    unfold bleave
    rw [if_pos hs]
    simp [one]
  · unfold cl
    simp only
    rw [la_set hr (by simp [one, fit_new.1]), if_pos rfl]
theorem pass_no (lim f t x now : Int) (hr : isR f) (h : ¬ t + lim < now) : bpass (one f t x) lim now = (one f t x, false) := by
  unfold bpass
  rw [cl_one f t x hr]
  simp only
  rw [if_neg h]

set_option maxHeartbeats 4000000 in
theorem walk (lim : Int) (v0 : Value) (z : Rep) (by_ : Int) (w : World) (hz : v0 = .agg (ra z)) : Calls Try.prog 6 #[.int .i64 lim, v0, .int .i64 by_] w fun e w' => e = .returned (.bool true) ∧ Ext w w' := by
  subst hz
  obtain ⟨f, t, x⟩ := z
  simp only [ra]
  have AW := hid (fun V => awake_any V)
  have X0 := hid (tb_ext w f t x)
  have E0 : Hid (w.alloc (.cells #[.int .i64 f, .int .i64 t, .int .u64 x] 43) = tb w f t x) := rfl
  by_cases b0 : lim < 1
  · go_enter Try.func6, Try.ntmps6
    go_wp2_with fail
    refine (AW.out _).mono ?_
    rintro e wz ⟨rfl, xz⟩
    have XZ : Hid (Ext w wz) := X0.out.trans xz
    clear xz
    go_wp2_with fail
    go_ret
    exact ⟨rfl, XZ.out⟩
  by_cases b1 : 1048576 < lim
  · go_enter Try.func6, Try.ntmps6
    go_wp2_with fail
    refine (AW.out _).mono ?_
    rintro e wz ⟨rfl, xz⟩
    have XZ : Hid (Ext w wz) := X0.out.trans xz
    clear xz
    go_wp2_with fail
    go_ret
    exact ⟨rfl, XZ.out⟩
  by_cases b2 : f < 0
  · go_enter Try.func6, Try.ntmps6
    go_wp2_with fail
    refine (AW.out _).mono ?_
    rintro e wz ⟨rfl, xz⟩
    have XZ : Hid (Ext w wz) := X0.out.trans xz
    clear xz
    go_wp2_with fail
    go_ret
    exact ⟨rfl, XZ.out⟩
  by_cases b3 : 63 < f
  · go_enter Try.func6, Try.ntmps6
    go_wp2_with fail
    refine (AW.out _).mono ?_
    rintro e wz ⟨rfl, xz⟩
    have XZ : Hid (Ext w wz) := X0.out.trans xz
    clear xz
    go_wp2_with fail
    go_ret
    exact ⟨rfl, XZ.out⟩
  by_cases b4 : t < 0
  · go_enter Try.func6, Try.ntmps6
    go_wp2_with fail
    refine (AW.out _).mono ?_
    rintro e wz ⟨rfl, xz⟩
    have XZ : Hid (Ext w wz) := X0.out.trans xz
    clear xz
    go_wp2_with fail
    go_ret
    exact ⟨rfl, XZ.out⟩
  by_cases b5 : 1099511627776 < t
  · go_enter Try.func6, Try.ntmps6
    go_wp2_with fail
    refine (AW.out _).mono ?_
    rintro e wz ⟨rfl, xz⟩
    have XZ : Hid (Ext w wz) := X0.out.trans xz
    clear xz
    go_wp2_with fail
    go_ret
    exact ⟨rfl, XZ.out⟩
  by_cases b6 : by_ < 0
  · go_enter Try.func6, Try.ntmps6
    go_wp2_with fail
    refine (AW.out _).mono ?_
    rintro e wz ⟨rfl, xz⟩
    have XZ : Hid (Ext w wz) := X0.out.trans xz
    clear xz
    go_wp2_with fail
    go_ret
    exact ⟨rfl, XZ.out⟩
  by_cases b7 : 2097152 < by_
  · go_enter Try.func6, Try.ntmps6
    go_wp2_with fail
    refine (AW.out _).mono ?_
    rintro e wz ⟨rfl, xz⟩
    have XZ : Hid (Ext w wz) := X0.out.trans xz
    clear xz
    go_wp2_with fail
    go_ret
    exact ⟨rfl, XZ.out⟩
  have hr : isR f := ⟨by omega, by omega⟩
  have ht : isT t := ⟨by omega, by omega⟩
  have TO := hid (take_one lim f t x (by omega) hr ht)
  have CO := hid (cl_one f t x hr)
  have PE := hid (fun W => told_eq W f t x)
  have wn : IntKind.i64.wrap (t + by_) = t + by_ := IntWalk.i64_in _ (by omega)
  have NW := hid (fun W => new_ok lim W ⟨by omega, by omega⟩)
  obtain ⟨bx, ebx⟩ : ∃ bx, bx = w.heap.size := ⟨_, rfl⟩
  have EB := hid ebx
  have R0 := hid (tb_row w f t x)
  rw [← ebx] at R0
  clear ebx
  by_cases q : lim < by_
  · obtain ⟨s3, ps, cs⟩ := pass_yes lim f t x (t + by_) hr (by omega)
    have PS := hid ps
    have CS := hid cs
    clear ps cs
    go_enter Try.func6, Try.ntmps6
    go_wp2_with fail
    rw [E0.out, ← EB.out]
    refine (NW.out _).mono ?_
    rintro e w1 ⟨b, rfl, h1⟩
    have S1 : Hid (PlS (tb w f t x) b lim w1 bnew) := PlS.new (Ext.refl _) h1.out
    obtain ⟨y0, y1, y2⟩ := row3 (S1.out.2.row R0.out)
    clear h1
    go_wp2_with fail
    refine (S1.out.take f t x t).mono ?_
    rintro e w2 ⟨rfl, s⟩
    rw [TO.out] at s ⊢
    have S2 := hid s
    obtain ⟨u0, u1, u2⟩ := row3 (S2.out.2.row R0.out)
    clear s S1 y0 y1 y2
    go_wp2_with fail
    refine (S2.out.pass (t + by_)).mono ?_
    rintro e w3 ⟨rfl, s⟩
    rw [PS.out] at s ⊢
    have S3 := hid s
    clear s S2 u0 u1 u2
    go_wp2_with fail
    refine (clr_any S3.out.1).mono ?_
    rintro e w4 ⟨rfl, x4⟩
    rw [CS.out]
    simp only [tv, Option.isSome_none]
    have S4 := hid ((S3.out.ext x4).ext (tb_ext w4 0 0 0))
    clear x4 S3
    go_wp2_with fail
    refine (AW.out _).mono ?_
    rintro e wz ⟨rfl, xz⟩
    have XZ : Hid (Ext w wz) := X0.out.trans (S4.out.2.trans xz)
    clear xz
    go_wp2_with fail
    go_ret
    exact ⟨rfl, XZ.out⟩
  · have PS := hid (pass_no lim f t x (t + by_) hr (by omega))
    go_enter Try.func6, Try.ntmps6
    go_wp2_with fail
    rw [E0.out, ← EB.out]
    refine (NW.out _).mono ?_
    rintro e w1 ⟨b, rfl, h1⟩
    have S1 : Hid (PlS (tb w f t x) b lim w1 bnew) := PlS.new (Ext.refl _) h1.out
    obtain ⟨y0, y1, y2⟩ := row3 (S1.out.2.row R0.out)
    clear h1
    go_wp2_with fail
    refine (S1.out.take f t x t).mono ?_
    rintro e w2 ⟨rfl, s⟩
    rw [TO.out] at s ⊢
    have S2 := hid s
    obtain ⟨u0, u1, u2⟩ := row3 (S2.out.2.row R0.out)
    clear s S1 y0 y1 y2
    go_wp2_with fail
    refine (S2.out.pass (t + by_)).mono ?_
    rintro e w3 ⟨rfl, s⟩
    rw [PS.out] at s ⊢
    have S3 := hid s
    clear s S2 u0 u1 u2
    go_wp2_with fail
    refine (clr_any S3.out.1).mono ?_
    rintro e w4 ⟨rfl, x4⟩
    rw [CO.out]
    simp only [tv, Option.isSome_some]
    have e2 : (one f t x).2 = f := rfl
    rw [e2]
    have S4 := hid ((S3.out.ext x4).ext (tb_ext w4 f t x))
    have EZ : Hid (w4.alloc (.cells #[.int .i64 f, .int .i64 t, .int .u64 x] 43) = tb w4 f t x) := rfl
    obtain ⟨z0, z1, z2⟩ := row3 (tb_row w4 f t x)
    obtain ⟨v0, v1, v2⟩ := row3 (S4.out.2.row R0.out)
    rw [← EZ.out] at z0 z1 z2 v0 v1 v2
    have PP := PE.out
    have GT := guardT
    clear x4 S3 e2
    go_wp2_with fail
    refine (AW.out _).mono ?_
    rintro e wz ⟨rfl, xz⟩
    have XZ : Hid (Ext w wz) := X0.out.trans (S4.out.2.trans xz)
    clear xz
    go_wp2_with fail
    go_ret
    exact ⟨by first | rfl | (show Ending.returned (.bool (!decide (lim < by_))) = _; rw [decide_eq_false (by omega)]; rfl), XZ.out⟩
end Go.Proofs.Yteokeieddapjhaa.clrPasses
