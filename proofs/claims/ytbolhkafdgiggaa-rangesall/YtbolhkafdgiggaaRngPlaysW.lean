/-
  The walk of RangesPlays: a set answers every sequence of calls as a list of truths does; its stretches are as few as can be.
-/
import Derived.Test.YtbolhkafdgiggaaRngHasW
import Derived.Test.YtbolhkafdgiggaaRngPairs
namespace Go.Proofs.Ytbolhkafdgiggaa
set_option linter.unusedVariables false
open Go.RowKit Go.Lib

/-- the stretches of what a list tells are the set's own -/
theorem Runs.all {xs : List Int} {l m : Sts} (hg : Good l) (h : Tab xs l) (r : Runs xs 1 0 16384 m) : m = l := by
  refine canon_same_on r.1 hg fun i h0 h1 => ?_
  rw [r.2 i h0 h1, tab_at h i h0 h1 1 (.inl rfl), if_pos rfl]
theorem Runs.gaps {xs : List Int} {l m g : Sts} {a b : Int} (ha : 0 ≤ a) (hb : b ≤ 16384) (h : Tab xs l) (r : Runs xs 0 a b m) (hc : Canon a b g) (hh : ∀ i, a ≤ i → i < b → has g i = !has l i) : g = m := by
  refine canon_same_on hc r.1 fun i h0 h1 => ?_
  rw [r.2 i h0 h1, tab_at h i (by omega) (by omega) 0 (.inr rfl), if_neg (by decide), hh i h0 h1]
theorem lens_take_le {l : Sts} (hg : Good l) (k : Nat) : 0 ≤ lens (l.take k) ∧ lens (l.take k) ≤ 16384 := by
  have e : ∀ (m : Sts), (∀ p ∈ m, p ∈ l) → 0 ≤ lens m := by
    intro m
    induction m with
    | nil => intro _; simp [lens]
    | cons p m ih =>
      intro h
      have := ih (fun q hq => h q (List.mem_cons_of_mem _ hq))
      have := hg.1 p (h p List.mem_cons_self)
      simp only [lens]
      omega
  have h1 := e (l.take k) (fun p hp => List.mem_of_mem_take hp)
  have h2 := e (l.drop k) (fun p hp => List.mem_of_mem_drop hp)
  have h3 : lens l = lens (l.take k) + lens (l.drop k) := by rw [← lens_append, List.take_append_drop]
  have h4 := tot_bound (a := 0) (b := 16384) (by decide) (by decide) (by decide) hg
  rw [tot_all hg (by decide)] at h4
  omega
end Go.Proofs.Ytbolhkafdgiggaa
namespace Go.Proofs.Ytbolhkafdgiggaa.rangesPlays
set_option linter.unusedVariables false
set_option maxRecDepth 100000
open Go.RowKit Go.Lib

set_option maxHeartbeats 4000000 in
theorem walk (v0 : Value) (os : Ops) (w : World) (hv : RowK (fun _ => True) w v0 3 (ocells os)) :
    Calls Try.prog 3 #[v0] w fun e w' => e = .returned (.bool true) ∧ Ext w w' := by
  obtain ⟨ao, n, c, rfl, h1, h2, h3, h4⟩ := hv
  have e : n = os.length := by rw [ocells_length] at h1; omega
  subst e
  unfold maxLen at h3
  by_cases t : 12 < os.length
  · have t' : (12 : Int) < (os.length : Int) := by omega
    clear h4
    go_enter Try.func3, Try.ntmps3
    go_wp2_with fail
    refine (awake8_any _).mono ?_
    rintro e w' ⟨rfl, X⟩
    go_wp2_with fail
    go_ret
    exact ⟨rfl, X⟩
  · have t' : decide ((12 : Int) < (os.length : Int)) = false := by simp; omega
    have H4 := hid h4
    have C0 := hid (new_any w)
    have X1 := (Ext.refl w).alloc (.cells #[.slice none 0 0] 57 (0, 0))
    obtain ⟨Z, mk, hz⟩ := make_zeros (w.alloc (.cells #[.slice none 0 0] 57 (0, 0)))
    rw [World.size_alloc] at mk hz
    have P0 : Hid (Played w ((w.alloc (.cells #[.slice none 0 0] 57 (0, 0))).alloc (.cells Z 3)) w.heap.size (.slice (some ⟨w.heap.size + 1, 0, none⟩) 16384 16384)) :=
      ⟨_, [], _, both_zero w Z hz, tab_zero, fun i hi => .inl hi, X1.alloc _⟩
    clear h1 h4 hz X1
    obtain ⟨b, eb⟩ : ∃ b, b = w.heap.size := ⟨_, rfl⟩
    rw [← eb] at mk P0 C0
    clear eb
    go_enter Try.func3, Try.ntmps3
    go_wp2_with fail
    refine C0.out.mono ?_
    rintro e w1 ⟨rfl, rfl⟩
    clear C0
    go_wp2_with fail
    go_loopw [4, 22] (fun xv i wr => ∃ k : Nat, k ≤ os.length ∧ i = .int .i64 (k : Int) ∧ Played w wr b xv) (fun _ i _ => (os.length - intOf i).toNat)
    case atStart => exact ⟨0, by omega, rfl, P0.out⟩
    case round =>
      obtain ⟨k, hk, rfl, P⟩ := hrel
      clear P0 mk
      obtain ⟨xa, xc, ex, x1, x2⟩ := P.slice
      subst ex
      by_cases q : k < os.length
      · obtain ⟨g, o, rfl, hg, hc⟩ := H4.out (by omega)
        obtain ⟨_, _, _, _, _, _, XR⟩ := id P
        have y1 := XR.cell (hc _ _ (ocells_at os k q).1)
        have y2 := XR.cell (hc _ _ (ocells_at os k q).2.1)
        have y3 := XR.cell (hc _ _ (ocells_at os k q).2.2)
        rw [← Nat.add_assoc] at y2 y3
        generalize (os.getD k (0, 0, 0)).1 = o1 at *
        generalize (os.getD k (0, 0, 0)).2.1 = o2 at *
        generalize (os.getD k (0, 0, 0)).2.2 = o3 at *
        have C := hid ((P.ext ((Ext.refl wr).alloc (.cells #[.int .i64 o1, .int .i64 o2, .int .i64 o3] 28))).step o1 o2 o3)
        have i1 : (k : Int) < (os.length : Int) := by omega
        have i2 : (0 : Int) ≤ (k : Int) := by omega
        clear P XR hc
        go_wp2_with fail
        refine C.out.mono ?_
        rintro e w2 ⟨xv', rfl, P2⟩
        obtain ⟨v, l, xs, gx, ox, cx, sv, hgood, tab, rfl, q1, q2, xl, _, _, rw2⟩ := P2.view
        have C2 := hid (refRuns_any _ w2 _ xs 0 16384 1 rw2 (by omega) (by decide) (by decide) (by omega))
        have PP := hid P2
        have SV := hid sv
        have HG := hid hgood
        have TB := hid tab
        have LN := hgood.len
        unfold maxLen at q2
        clear C P2 sv hgood tab xl rw2 y1 y2 y3
        go_wp2_with fail
        refine C2.out.mono ?_
        rintro e w3 ⟨wv, rfl, m, nw, rn⟩
        obtain rfl : m = l := Runs.all HG.out TB.out rn
        obtain ⟨wa, wc, ewv, u1, u2, vw⟩ := nw.1.view
        subst ewv
        have NW := hid nw
        have VW := hid vw
        have X3 := hid nw.2.2
        unfold maxLen at u2
        clear C2 rn nw vw
        go_wp2_with fail
        obtain ⟨w30, e30⟩ : ∃ w30, w30 = w3 := ⟨_, rfl⟩
        go_loopw [9, 41] (fun s i wr => ∃ j : Nat, j ≤ m.length ∧ i = .int .i64 (j : Int) ∧ s = .int .i64 (lens (m.take j)) ∧ Ext w3 wr) (fun _ i _ => (m.length - intOf i).toNat)
        case atStart => exact ⟨0, by omega, rfl, rfl, Ext.refl _⟩
        case round =>
          obtain ⟨j, hj, rfl, rfl, xr⟩ := hrel
          have XR := hid xr
          have LB := lens_take_le HG.out j
          by_cases q3 : j < m.length
          · obtain ⟨g4, rfl, z1, z2⟩ := VW.out j q3
            have z1 := xr.cell z1
            have z2 := xr.cell z2
            have MI := HG.out.1 _ (at_mem q3)
            have LS : Hid (lens (m.take (j + 1)) = lens (m.take j) + ((m.getD j (0, 0)).2 - (m.getD j (0, 0)).1)) := by
              show _ = _
              rw [take_more m j q3, lens_append]
              simp only [lens]
              omega
            generalize (m.getD j (0, 0)).1 = p1 at *
            generalize (m.getD j (0, 0)).2 = p2 at *
            generalize lens (m.take j) = T at *
            have X4 := hid (XR.out.alloc (.cells #[.int .i64 p1, .int .i64 p2] 33))
            have j1 : (j : Int) < (m.length : Int) := by omega
            have j2 : (0 : Int) ≤ (j : Int) := by omega
            clear xr
            go_wp2_with fail
            go_roundw
            case rel => exact ⟨j + 1, by omega, by go_num, by rw [LS.out], X4.out⟩
            case measure => simp [intOf]; omega
          · obtain rfl : j = m.length := by omega
            rw [List.take_length] at LB ⊢
            have S3 := hid ((SV.out.ext X3.out).ext xr)
            obtain ⟨W, eW⟩ : ∃ W, W = wr := ⟨_, rfl⟩
            subst eW
            have C3 := hid (stretches_any b v m W S3.out (by omega))
            obtain ⟨T, eT⟩ : ∃ T, lens m = T := ⟨_, rfl⟩
            rw [eT] at LB ⊢
            have ET := hid eT
            clear xr eT
            go_wp2_with fail
            refine C3.out.mono ?_
            rintro e w5 ⟨v5, rfl, o5, x5, _⟩
            have NW5 := (NW.out.1.ext XR.out).ext x5
            have C5 := hid (pairs_any _ _ w5 _ _ m m o5.row NW5.row (by omega))
            rw [show (m == m) = true by simp] at C5
            obtain ⟨a5, n5, c5, e5⟩ := owns_slice o5
            subst e5
            have X5 := hid x5
            clear C3 o5 x5 NW5
            go_wp2_with fail
            refine C5.out.mono ?_
            rintro e w6 ⟨rfl, n6, rfl⟩
            have C6 := hid (len_any b v m (w5.drewN n6) ((S3.out.ext X5.out).ext ((Ext.refl w5).drewN n6)) HG.out)
            rw [ET.out] at C6
            clear C5
            go_wp2_with fail
            refine C6.out.mono ?_
            rintro e w7 ⟨rfl, x7⟩
            have P7 := hid (PP.out.ext (((X3.out.trans XR.out).trans (X5.out.drewN n6)).trans x7))
            clear C6 x7
            go_wp2_with fail
            go_roundw
            case rel => exact ⟨k + 1, by omega, by go_num, P7.out⟩
            case measure => simp [intOf]; omega
      · obtain rfl : k = os.length := by omega
        obtain ⟨_, _, _, _, _, _, XR⟩ := id P
        have XX := hid XR
        clear P XR
        go_wp2_with fail
        refine (awake8_any _).mono ?_
        rintro e w4 ⟨rfl, x4⟩
        have X4 := hid (XX.out.trans x4)
        clear x4
        go_wp2_with fail
        go_ret
        exact ⟨rfl, X4.out⟩
end Go.Proofs.Ytbolhkafdgiggaa.rangesPlays
