/-
  The statements' step whatever the call; the walk of same.
-/
import Derived.Test.YtlpdffjbdekjeaaPipStep2
import Derived.Test.YtlpdffjbdekjeaaEverMore
namespace Go.Proofs.Ytlpdffjbdekjeaa
set_option linter.unusedVariables false
set_option maxRecDepth 100000
open Go.RowKit Go.Lib

theorem step_any (K : Nat → Prop) (b : Nat) (room kind at_ N : Int) (x : Ms) (xv tv : Value) (t : List UInt8) (w : World) (hw : PipK K w b room (ord x)) (hx : RowK K w xv 2 (rcells x)) (ht : Bytes w tv t) (hp : Plain tv) :
    Calls Try.prog 10 #[.pointer (some ⟨b, 0, none⟩), xv, .int .i64 room, .agg #[.int .i64 kind, .int .i64 at_, .int .i64 N, tv]] w fun e w' => StepPost K w b room e w' := by
  by_cases h1 : kind = 1
  · subst h1
    by_cases hb : at_ < 0 ∨ 2199023255552 < at_ ∨ 320 < t.length
    · exact step_bad K b room at_ N x xv tv t w hw hx ht hp hb
    · have q := hw.1
      rw [ord_length] at q
      by_cases hf : (x.length : Int) = room
      · exact step_full K b room at_ N x xv tv t w hw hx ht hp (by omega) (by omega) (by omega) hf
      · exact step_put K b room at_ N x xv tv t w hw hx ht hp (by omega) (by omega) (by omega) (by omega)
  · by_cases h2 : kind = 2
    · subst h2
      exact step_take K b room at_ N x xv tv t w hw hx ht hp
    · by_cases h3 : kind = 3
      · subst h3
        exact step_clear K b room at_ N x xv tv t w hw hx ht hp
      · exact step_other K b room kind at_ N x xv tv t w hw hx ht hp h1 h2 h3

theorem du_take_step (x : Ms) (now : Int) (k : Nat) (h : k < x.length) : du (x.take (k + 1)) now = du (x.take k) now + if (x.getD k (0, [])).1 ≤ now then 1 else 0 := by
  have e : x.take (k + 1) = x.take k ++ [x.getD k (0, [])] := by
    rw [List.take_add_one, List.getD_eq_getElem?_getD, List.getElem?_eq_getElem h]; rfl
  rw [e, du_append, du_cons, du_nil]
  omega

set_option maxHeartbeats 2000000 in
theorem same_any (K : Nat → Prop) (b : Nat) (room now : Int) (x : Ms) (xv : Value) (w : World) (hw : PipK K w b room (ord x)) (hx : RowK K w xv 2 (rcells x)) :
    Calls Try.prog 11 #[.pointer (some ⟨b, 0, none⟩), xv, .int .i64 room, .int .i64 now] w fun e w' => e = .returned (.bool true) ∧ Ext w w' := by
  obtain ⟨ao, cm, em, m1, m2, vw⟩ := hx.view
  subst em
  unfold maxLen at m2
  obtain ⟨⟨r1, r2, r3, r4⟩, v, ml, hu, el⟩ := hw
  rw [ord_length] at r4
  have ln : ml.length = x.length := by rw [← ord_length x, ← el, List.length_map]
  have HU := hid hu.1
  have HX := hid hx
  have VW := hid vw
  have LN : Hid (∀ V, Ext w V → Calls Try.prog 19 #[.pointer (some ⟨b, 0, none⟩)] V fun e w' => e = .returned (.int .i64 (x.length : Int)) ∧ w' = V) := fun V hV => by
    have := len_any b room v ml V (HU.out.ext hV)
    rw [ln] at this
    exact this
  have RM : Hid (∀ V, Ext w V → Calls Try.prog 16 #[.pointer (some ⟨b, 0, none⟩)] V fun e w' => e = .returned (.int .i64 (room - (x.length : Int))) ∧ Ext V w') := fun V hV => by
    have := room_any b room v ml V (HU.out.ext hV) ⟨r1, r2⟩ (by omega)
    rw [ln] at this
    refine this.mono ?_
    rintro e w' ⟨h, m, rfl⟩
    exact ⟨h, (Ext.refl V).drewN m⟩
  have DU : Hid (∀ V, Ext w V → Calls Try.prog 12 #[.pointer (some ⟨b, 0, none⟩), .int .i64 now] V fun e w' => e = .returned (.int .i64 (du x now : Int)) ∧ Ext V w') := fun V hV => by
    have := due_any b room now v ml (ord x) V (HU.out.ext hV) el r3 (by rw [ord_length]; omega)
    rw [du_ord] at this
    exact this
  have FS : Hid (∀ V, Ext w V → Calls Try.prog 21 #[.slice ao x.length cm] V fun e w' => ∃ a : Int, e = .returned (.int .i64 a) ∧ ((x = [] ∧ a = -1) ∨ ∃ i : Nat, a = (i : Int) ∧ IsF x i) ∧ ∃ m, w' = V.drewN m) := fun V hV => first_any _ _ x V (HX.out.kept (Kept.of_ext hV)) (by omega)
  have DS := hid (du_take_step x now)
  have DA : Hid (du (x.take x.length) now = du x now) := by show _ = _; rw [List.take_length]
  have DL : Hid (∀ k, du (x.take k) now ≤ 256) := fun k => by
    have h1 := du_le (x.take k) now
    have h2 : (x.take k).length ≤ x.length := by simp [List.length_take]; omega
    omega
  have LR := hid (And.intro r1 (And.intro r2 r4))
  have EL := hid el
  clear hx vw hu el r3 ln
  obtain ⟨n, en⟩ : ∃ n, n = x.length := ⟨_, rfl⟩
  rw [← en] at m1 VW LN RM FS DS DA r4 LR
  rw [← en]
  have EN := hid en
  clear en
  go_enter Try.func11, Try.ntmps11
  go_wp2_with fail
  go_loopw [9, 11, 18] (fun c _ i wr => ∃ k : Nat, k ≤ n ∧ i = .int .i64 (k : Int) ∧ c = .int .i64 (du (x.take k) now : Int) ∧ Hid (Ext w wr)) (fun _ _ i _ => (n - intOf i).toNat)
  case atStart => exact ⟨0, by omega, rfl, by rw [List.take_zero, du_nil]; rfl, Ext.refl w⟩
  case round =>
    obtain ⟨k, hk, rfl, rfl, X⟩ := hrel
    by_cases h : k < n
    · obtain ⟨g, o, eg, x1, x2⟩ := VW.out k h
      subst eg
      have y1 := X.out.cell x1
      have y2 := X.out.cell x2
      have s1 := DS.out k h
      have dl := DL.out k
      have i1 : (k : Int) < (n : Int) := by omega
      have i2 : (0 : Int) ≤ (k : Int) := by omega
      obtain ⟨D1, e1⟩ : ∃ D1, D1 = du (x.take (k + 1)) now := ⟨_, rfl⟩
      rw [← e1] at s1
      have E1 := hid e1
      have S1 := hid s1
      have X1 : Hid (Ext w (wr.alloc (.cells #[.int .i64 (x.getD k (0, [])).1, .string (str (x.getD k (0, [])).2)] 52))) := X.out.alloc _
      clear x1 x2 e1 s1
      generalize (x.getD k (0, [])).1 = pd at *
      generalize (x.getD k (0, [])).2 = pt at *
      generalize du (x.take k) now = D at *
      by_cases hd : pd ≤ now
      · have hD : D1 = D + 1 := by have := S1.out; rw [if_pos hd] at this; exact this
        clear S1
        go_wp2_with fail
        go_roundw
        case rel => exact ⟨k + 1, by omega, by go_num, by rw [← E1.out, hD]; go_num, X1⟩
        case measure => simp [intOf]; omega
      · have hD : D1 = D := by have := S1.out; rw [if_neg hd] at this; omega
        clear S1
        go_wp2_with fail
        go_roundw
        case rel => exact ⟨k + 1, by omega, by go_num, by rw [← E1.out, hD], X1⟩
        case measure => simp [intOf]; omega
    · obtain rfl : k = n := by omega
      rw [DA.out]
      clear DS DA DL
      have dd : du x now ≤ 256 := by have h1 := du_le x now; have := EN.out; omega
      generalize hD : du x now = D at *
      have HD := hid hD
      clear hD
      obtain ⟨u, eu⟩ : ∃ u : Nat, u = 0 := ⟨_, rfl⟩
      clear eu u
      cases ml with
      | nil =>
        have x0 : x = [] := by
          have := EL.out
          simp only [List.map_nil] at this
          exact List.eq_nil_of_length_eq_zero (by rw [← ord_length x, ← this]; rfl)
        have k0 : k = 0 := by rw [EN.out, x0]; rfl
        have D0 : D = 0 := by rw [← HD.out, x0]; rfl
        have PK := hid (peek_none b room v wr (HU.out.ext X.out))
        subst k0 D0
        have XX := hid X.out
        clear EN HD
        go_wp2_with fail
        refine PK.out.mono ?_
        rintro e w2 ⟨rfl, rfl⟩
        clear PK
        go_wp2_with fail
        refine (FS.out _ X.out).mono ?_
        rintro e w3 ⟨a, rfl, ha, m, rfl⟩
        have ha' : a = -1 := by
          rcases ha with ⟨_, h⟩ | ⟨i, _, hF⟩
          · exact h
          · have := hF.1; rw [x0] at this; simp at this
        subst ha'
        have X3 := hid (X.out.drewN m)
        clear FS ha x0 HX VW
        go_wp2_with fail
        refine (LN.out _ X3.out).mono ?_
        rintro e w4 ⟨rfl, rfl⟩
        go_wp2_with fail
        refine (DU.out _ X3.out).mono ?_
        rintro e w5 ⟨rfl, x5⟩
        have X5 := hid (X3.out.trans x5)
        clear x5 LN DU RM
        go_wp2_with fail
        go_ret
        exact ⟨rfl, X5.out⟩
      | cons p r =>
        have PK := hid (peek_some b room v p r wr (HU.out.ext X.out))
        have oe : ord x = told p :: r.map told := by have := EL.out; rw [← this]; rfl
        go_wp2_with fail
        refine PK.out.mono ?_
        rintro e w2 ⟨⟨s1, s2, s3⟩, rfl, hs, ob, x2⟩
        have X2 := hid (X.out.trans x2)
        have OB := hid ob
        simp only at hs
        have HS := hid hs
        simp only [sval]
        clear PK hs ob x2
        go_wp2_with fail
        refine (FS.out _ X2.out).mono ?_
        rintro e w3 ⟨a, rfl, ha, m, ew3⟩
        obtain ⟨i, ea, hF⟩ : ∃ i : Nat, a = (i : Int) ∧ IsF x i := by
          rcases ha with ⟨h, _⟩ | h
          · rw [h, ord_nil] at oe; simp at oe
          · exact h
        subst ea
        have X3 : Ext w w3 := by rw [ew3]; exact X2.out.drewN m
        have xi : x.getD i (0, []) = told p := by
          have := ord_first x i hF
          rw [oe] at this
          simp only [List.cons.injEq] at this
          exact this.1.symm
        obtain ⟨g, o, eg, x1, x2⟩ := VW.out i (by have := hF.1; have := EN.out; omega)
        rw [xi] at x1 x2
        subst eg
        have OB3 : OwnB w3 (.slice s1 s2 s3) p.2.2 := by rw [ew3]; exact OB.out.ext ((Ext.refl w2).drewN m)
        have iY : i < k := by have := hF.1; have := EN.out; omega
        have C1 : ∀ n : Ever w3, n.W.cell? ⟨g, o + i * 2, none⟩ = some (.int .i64 p.1) := fun n => n.ok.cell (X3.cell x1)
        have C2 : ∀ n : Ever w3, n.W.cell? ⟨g, o + i * 2 + 1, none⟩ = some (.string (str p.2.2)) := fun n => n.ok.cell (X3.cell x2)
        have CV : ∀ n : Ever w3, (convert 30 9 (.slice s1 s2 s3)).run Try.prog n.W = .ok (.string (str p.2.2)) n.W := fun n => Bytes.str (OB3.ext n.ok).bytes
        have i1 : (i : Int) < (k : Int) := by omega
        have i2 : (0 : Int) ≤ (i : Int) := by omega
        have i4 : ((str p.2.2).toList == (str p.2.2).toList) = true := by simp
        have wr' : IntKind.i64.wrap (room - (k : Int)) = room - (k : Int) := IntWalk.i64_in _ (by have := LR.out; omega)
        have XX3 := hid X3
        have some := Ever.some w3
        clear FS ha hF xi x1 x2 ew3 OB3 oe EL VW HX X2 OB X HS EN HD X3
        go_wp2_with fail
        refine wp_region_ext (by kernel_rfl) (by kernel_rfl) ?_
        repeat (go_big_quiet_step (first
          | (go_at_call 19; refine (LN.out _ (XX3.out.trans (Ever.ok _))).mono ?_; rintro e w' ⟨rfl, rfl⟩; exact ⟨rfl, ⟨_, Ever.ok _⟩, rfl⟩)
          | (go_at_call 16; refine (RM.out _ (XX3.out.trans (Ever.ok _))).mono ?_; rintro e w' ⟨rfl, hx⟩; exact ⟨rfl, ⟨w', (Ever.ok _).trans hx⟩, rfl⟩)
          | (go_at_call 12; refine (DU.out _ (XX3.out.trans (Ever.ok _))).mono ?_; rintro e w' ⟨rfl, hx⟩; exact ⟨rfl, ⟨w', (Ever.ok _).trans hx⟩, rfl⟩)))
        refine wpQuiet_nil ?_
        rintro w4 ⟨⟨_, x4⟩, rfl⟩
        have X4 := hid (XX3.out.trans x4)
        clear x4 some C1 C2 CV LN RM DU XX3
        go_wp2_with fail
        go_ret
        exact ⟨rfl, X4.out⟩
end Go.Proofs.Ytlpdffjbdekjeaa
