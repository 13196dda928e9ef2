/-
  The walk of CrcTurns: sealed bytes of which one bit is turned are opened never; turned twice they are what they were.
-/
import Derived.Test.YtekkfoncbcibiaaCrcSumsW
import Derived.Deep.RegionHeld3
namespace Go.Proofs.Ytekkfoncbcibiaa.crcTurns
set_option linter.unusedVariables false
open Go.RowKit Go.Lib

/-- how many bits differ in the first k bytes -/
def one (p k : Nat) : Nat := if p < k then 1 else 0

theorem differ (l : List UInt8) (bit : Int) (k : Nat) (hk : k < l.length) :
    bits .xor .u8 ((l.getD k 0).toNat : Int) (((cturn l bit).getD k 0).toNat : Int) = (((l.getD k 0).toNat ^^^ ((cturn l bit).getD k 0).toNat : Nat) : Int) ∧
    (l.getD k 0).toNat ^^^ ((cturn l bit).getD k 0).toNat < 256 ∧
    one (cplace l.length bit) k + cpop 8 ((l.getD k 0).toNat ^^^ ((cturn l bit).getD k 0).toNat) = one (cplace l.length bit) (k + 1) := by
  refine ⟨u8_xor_nat _ _ (byte_room _) (byte_room _), Nat.xor_lt_two_pow (n := 8) (byte_room _) (byte_room _), ?_⟩
  unfold one
  by_cases h : cplace l.length bit = k
  · subst h
    obtain ⟨j, hj, e, _⟩ := cmask_nat bit
    have e2 : (cturn l bit).getD (cplace l.length bit) 0 = l.getD (cplace l.length bit) 0 ^^^ cmask bit := getD_set_self _ _ _ hk
    rw [e2, UInt8.toNat_xor, ← Nat.xor_assoc, Nat.xor_self, Nat.zero_xor, e, cpop_one j hj, if_neg (by omega), if_pos (by omega)]
  · have e2 : (cturn l bit).getD k 0 = l.getD k 0 := getD_set_other _ _ _ _ h
    rw [e2, Nat.xor_self, cpop_zero]
    by_cases c : cplace l.length bit < k
    · rw [if_pos c, if_pos (by omega)]
    · rw [if_neg c, if_neg (by omega)]

/-- the bits that are counted, and those still to come -/
def Count (C : Nat) (n x : Value) : Prop := ∃ f u r : Nat, f ≤ 8 ∧ u < 2 ^ f ∧ n = .int .i64 r ∧ x = .int .u8 u ∧ r + cpop f u = C

/-- what is asked of each world on the way may be made more -/
theorem wpAnyH_more {P : Program} {md : Region.Mode} {ops : Array Oper} {Q : Exit → Act → World → Prop} {S S2 : World → Prop} (hS : ∀ w, S2 w → S w) :
    ∀ (fuel : Nat) (listed : Array Bool) (a : Act) (w : World), wpAnyH P md ops Q S2 fuel listed a w → wpAnyH P md ops Q S fuel listed a w
  | 0, _, _, _, h => h
  | fuel + 1, _, _, _, h => ⟨h.1, fun i hi => wpOp_mono (fun a' w' h' => ⟨hS _ h'.1, wpAnyH_more hS fuel _ a' w' h'.2⟩) (h.2 i hi)⟩

/-- an operation taken first, its slot written out -/
theorem takeH {P : Program} {md : Region.Mode} {ops : Array Oper} {Q : Exit → Act → World → Prop} {S : World → Prop} (i d : Nat) {oi : Oper} {v : Value} {fuel : Nat} {listed : Array Bool} {a : Act} {w : World} (hi : ops[i]? = some oi) (hd : oi.dst = some d)
    (hs : Region.noSelect ops = true) (hf : Region.free md ops listed i = true) (hr : (Region.ready md ops listed).contains i = true)
    (hQ : ∀ c a w, Q (.panic c) (a.put oi.dst v) w → Q (.panic c) a w) (hy : YieldsIf P ops S oi v a) (hS : S w)
    (h : wpAnyH P md ops Q S fuel (listed.setIfInBounds i true) (a.put (some d) v) w) : wpAnyH P md ops Q S (fuel + 1) listed a w :=
  wpAnyH_take hi hs hf hr hQ hy hS (by rw [hd]; exact h)

/-- a call that alone may come up -/
theorem callH {P : Program} {md : Region.Mode} {ops : Array Oper} {Q : Exit → Act → World → Prop} {S : World → Prop} (i d : Nat) {oi : Oper} {f : FuncId} {args : Array Value} {fuel : Nat} {listed : Array Bool} {a : Act} {w : World} (hi : ops[i]? = some oi) (hd : oi.dst = some d)
    (hr : Region.ready md ops listed = [i]) (hw : Region.wanted oi (yielded ops a.tmps) = true) (he : (execOp a.eval oi).run P w = .ok (.enter f args) w)
    (hc : Calls P f args w (fun e w' => ∃ v, e = .returned v ∧ S w' ∧ wpAnyH P md ops Q S fuel (listed.setIfInBounds i true) (a.put (some d) v) w')) : wpAnyH P md ops Q S (fuel + 1) listed a w := by
  refine wpAnyH_all hr (by simp) (fun j hj => ?_)
  obtain rfl : j = i := by simpa using hj
  unfold wpOp
  simp only [hi, hw, if_true, Oper.wp, he, Oper.upon]
  left
  refine hc.mono ?_
  rintro e w' ⟨v, rfl, h1, h2⟩
  simp only [hd]
  exact ⟨h1, h2⟩

set_option maxHeartbeats 4000000 in
theorem walk (v0 : Value) (a : List UInt8) (bit : Int) (w : World) (ha : Bytes w v0 a) (wb : (Lit.int .i64 bit).wf = true) :
    Calls Try.prog 5 #[v0, .int .i64 bit] w fun e w' => e = .returned (.bool true) ∧ Ext w w' := by
  obtain ⟨b0, b0'⟩ := bounds_i64 wb
  clear wb
  have HA := hid ha
  obtain ⟨ao, ca, rfl, qa1, qa2, _⟩ := ha
  unfold maxLen at qa2
  by_cases t1 : 1000 < a.length
  · have t1' : (1000 : Int) < (a.length : Int) := by omega
    go_enter Try.func5, Try.ntmps5
    go_wp2_with fail
    refine (awake6_any _).mono ?_
    rintro e w' ⟨rfl, X⟩
    go_wp2_with fail
    go_ret
    exact ⟨rfl, X⟩
  · have t1' : decide ((1000 : Int) < (a.length : Int)) = false := by simp; omega
    have C1 := hid (seal_any _ a w HA.out (by omega))
    have la : a.length ≤ 1000 := by omega
    have hl := cseal_length a
    have OP := hid (copens_cturn a bit)
    clear t1
    go_enter Try.func5, Try.ntmps5
    go_wp2_with fail
    refine C1.out.mono ?_
    rintro e w1 ⟨g, rfl, hg, r1, x1⟩
    have X1 := hid x1
    rw [← hl]
    have DF := hid (differ (cseal a) bit)
    have TT := hid (cturn_cturn (cseal a) bit)
    have PL := hid (cplace_lt (cseal a).length bit (by omega))
    have TL := hid (cturn_length (cseal a) bit)
    generalize cseal a = s at *
    have ls : s.length ≤ 2000 := by omega
    have l0 : 0 < s.length := by omega
    have C2 := hid (turn_any _ s bit w1 (r1.bytes (by omega)) (by omega) l0 (by omega) (by omega))
    clear hl C1 hg x1 la qa1 qa2 HA
    go_wp2_with fail
    refine C2.out.mono ?_
    rintro e w2 ⟨rfl, r2, x2⟩
    have X2 := hid (X1.out.trans x2)
    obtain ⟨h, eh⟩ : ∃ h, h = w1.heap.size := ⟨_, rfl⟩
    rw [← eh] at r2
    rw [← eh]
    have R1 := hid (r1.ext x2)
    have R2 := hid r2
    obtain ⟨t, et⟩ : ∃ t, t = cturn s bit := ⟨_, rfl⟩
    have ET := hid et
    rw [← et] at R2 DF OP TL
    rw [← TL.out]
    have C3 := hid (open_no _ t w2 (R2.out.bytes (by rw [TL.out]; omega)) (by rw [TL.out]; omega) OP.out)
    rw [TL.out]
    rw [TL.out] at C3
    clear C2 r1 r2 x2 eh et X1
    go_wp2_with fail
    refine C3.out.mono ?_
    rintro e w3 ⟨rfl, x3⟩
    have X3 := hid (X2.out.trans x3)
    have S1 := hid (R1.out.ext x3)
    have S2 := hid (R2.out.ext x3)
    clear x3 C3 X2 R1 R2
    go_wp2_with fail
    go_loopw [9, 31] (fun n i wr => ∃ k m : Nat, k ≤ s.length ∧ i = .int .i64 k ∧ n = .int .i64 (one (cplace s.length bit) k) ∧ wr = w3.drewN m) (fun _ i _ => (s.length - intOf i).toNat)
    case atStart => exact ⟨0, 0, by omega, rfl, rfl, rfl⟩
    case round =>
      obtain ⟨k, m, hk, rfl, rfl, rfl⟩ := hrel
      have n1 : one (cplace s.length bit) k ≤ 1 := by unfold one; split <;> omega
      by_cases t5 : k < s.length
      · obtain ⟨d1, d2, d3⟩ := DF.out k t5
        have c1 := S1.out.cell k t5
        have c2 := S2.out.cell k (by rw [TL.out]; exact t5)
        have DD := hid d3
        have cn : one (cplace s.length bit) (k + 1) ≤ 1 := by unfold one; split <;> omega
        obtain ⟨C, eC⟩ : ∃ C, C = one (cplace s.length bit) (k + 1) := ⟨_, rfl⟩
        rw [← eC] at DD cn
        have EC := hid eC
        clear eC
        generalize (s.getD k 0).toNat ^^^ (t.getD k 0).toNat = Z at d1 d2 DD
        have z1 := byte_room (s.getD k 0)
        have z2 := byte_room (t.getD k 0)
        generalize (s.getD k 0).toNat = x at *
        generalize (t.getD k 0).toNat = y at *
        generalize one (cplace s.length bit) k = c at *
        have i1 : (k : Int) < (s.length : Int) := by omega
        have i2 : (0 : Int) ≤ (k : Int) := by omega
        clear d3
        go_wp2_with fail
        go_quiet (fail)
        go_wp2_with fail
        go_loop [9, 11] (fun n x => Count C n x) (fun _ x => (intOf x).toNat)
        case atStart => exact ⟨8, Z, c, Nat.le_refl _, d2, rfl, rfl, DD.out⟩
        case round =>
          obtain ⟨f, u, r, hf, hu, rfl, rfl, e0⟩ := hrel
          have E := hid e0
          clear e0
          by_cases t6 : u = 0
          · subst t6
            have e := E.out
            rw [cpop_zero] at e
            subst e
            go_wp2_with fail
            go_roundw
            case rel => exact ⟨k + 1, _, by omega, by go_num, by rw [← EC.out]; rfl, rfl⟩
            case measure => simp [intOf]; omega
          · cases f with
            | zero => exact absurd hu (by simp; omega)
            | succ f =>
              have e : r + (u % 2 + cpop f (u / 2)) = C := E.out
              have u1 : u < 256 := Nat.lt_of_lt_of_le hu (Nat.pow_le_pow_right (by decide) hf)
              have u2 : u / 2 < 2 ^ f := by rw [Nat.pow_succ] at hu; omega
              have u3 : (0 : Int) < (u : Int) := by omega
              have r1 : r ≤ 1 := by omega
              have E2 : Hid (r + u % 2 + cpop f (u / 2) = C) := by show _ = _; omega
              clear e E
              go_wp2_with fail
              go_round
              case rel => exact ⟨f, u / 2, r + u % 2, by omega, u2, by go_num, by go_num, E2.out⟩
              case measure => simp [intOf]; omega
      · obtain rfl : k = s.length := by omega
        have o1 : one (cplace s.length bit) s.length = 1 := if_pos PL.out
        rw [o1]
        obtain ⟨SS, eS⟩ : ∃ SS, SS = str s := ⟨_, rfl⟩
        have CV : Hid (∀ W, Ext w3 W → (convert 22 9 (.slice (some ⟨g, 0, none⟩) s.length s.length)).run Try.prog W = .ok (.string SS) W) := fun W X => by
          rw [eS]; exact ((S1.out.ext X).bytes (by omega)).str
        have TA : Hid (Calls Try.prog 14 #[.slice (some ⟨h, 0, none⟩) s.length s.length, .int .i64 bit] (w3.drewN m).drew fun e w' =>
            e = .returned (.slice (some ⟨w3.heap.size, 0, none⟩) s.length s.length) ∧ (∀ W, Ext w' W → (convert 22 9 (.slice (some ⟨w3.heap.size, 0, none⟩) s.length s.length)).run Try.prog W = .ok (.string SS) W) ∧ Ext w3 w') := by
          have X : Ext w3 (w3.drewN m).drew := Below.drew ((Ext.refl w3).drewN m)
          have c := turn_any _ t bit (w3.drewN m).drew ((S2.out.ext X).bytes (by rw [TL.out]; omega)) (by rw [TL.out]; omega) (by rw [TL.out]; omega) (by omega) (by omega)
          rw [TL.out, ET.out, TT.out] at c
          refine c.mono ?_
          rintro e w' ⟨rfl, r, x⟩
          exact ⟨rfl, fun W Y => by rw [eS]; exact ((r.ext Y).bytes (by omega)).str, X.trans x⟩
        have TN : Hid (∀ W, Calls Try.prog 14 #[.slice none 0 0, .int .i64 bit] W fun e w' => e = .returned (.slice (some ⟨W.heap.size, 0, none⟩) 0 0) ∧ Ext W w') := fun W => by
          refine (turn_empty _ [] bit W ⟨none, 0, rfl, Nat.le_refl _, Nat.zero_le _, fun k hk => by simp at hk⟩ rfl).mono ?_
          rintro e w' ⟨rfl, _, x⟩
          exact ⟨rfl, x⟩
        clear eS S1 S2 TT TL DF OP PL n1 t5 o1 ET
        go_wp2_with fail
        refine wp_region_held_drew (S := fun W => Ext w3 W) (by kernel_rfl) (Below.drew ((Ext.refl w3).drewN m)) (fun hHeld => ?_)
        refine takeH (v := ?_) 0 53 rfl rfl (by kernel_rfl) (by kernel_rfl) (by kernel_rfl) (fun _ _ _ h => h) (Or.inl ⟨by rfl, fun W hW => ?_⟩) hHeld ?_
        rotate_left
        · (go_simp; try with_reducible rfl)
        simp only [Act.put, List.setIfInBounds_toArray, List.set_cons_zero, List.set_cons_succ]
        refine takeH (v := ?_) 1 54 rfl rfl (by kernel_rfl) (by kernel_rfl) (by kernel_rfl) (fun _ _ _ h => h) (Or.inl ⟨by rfl, fun W hW => ?_⟩) hHeld ?_
        rotate_left
        · (go_simp; try with_reducible rfl)
        simp only [Act.put, List.setIfInBounds_toArray, List.set_cons_zero, List.set_cons_succ]
        refine takeH (v := ?_) 2 55 rfl rfl (by kernel_rfl) (by kernel_rfl) (by kernel_rfl) (fun _ _ _ h => h) (Or.inl ⟨by rfl, fun W hW => ?_⟩) hHeld ?_
        rotate_left
        · (go_simp; try with_reducible rfl)
        simp only [Act.put, List.setIfInBounds_toArray, List.set_cons_zero, List.set_cons_succ]
        refine takeH (v := ?_) 3 56 rfl rfl (by kernel_rfl) (by kernel_rfl) (by kernel_rfl) (fun _ _ _ h => h) (Or.inl ⟨by rfl, fun W hW => ?_⟩) hHeld ?_
        rotate_left
        · (go_simp; try with_reducible rfl)
        simp only [Act.put, List.setIfInBounds_toArray, List.set_cons_zero, List.set_cons_succ]
        refine takeH (v := ?_) 4 57 rfl rfl (by kernel_rfl) (by kernel_rfl) (by kernel_rfl) (fun _ _ _ h => h) (Or.inl ⟨by rfl, fun W hW => ?_⟩) hHeld ?_
        rotate_left
        · (go_simp; try with_reducible rfl)
        simp only [Act.put, List.setIfInBounds_toArray, List.set_cons_zero, List.set_cons_succ]
        refine takeH (v := ?_) 5 58 rfl rfl (by kernel_rfl) (by kernel_rfl) (by kernel_rfl) (fun _ _ _ h => h) (Or.inl ⟨by rfl, fun W hW => ?_⟩) hHeld ?_
        rotate_left
        · (go_simp; try with_reducible rfl)
        simp only [Act.put, List.setIfInBounds_toArray, List.set_cons_zero, List.set_cons_succ]
        refine takeH (v := ?_) 6 59 rfl rfl (by kernel_rfl) (by kernel_rfl) (by kernel_rfl) (fun _ _ _ h => h) (Or.inl ⟨by rfl, fun W hW => ?_⟩) hHeld ?_
        rotate_left
        · (go_simp; try with_reducible rfl)
        simp only [Act.put, List.setIfInBounds_toArray, List.set_cons_zero, List.set_cons_succ]
        refine takeH (v := ?_) 7 60 rfl rfl (by kernel_rfl) (by kernel_rfl) (by kernel_rfl) (fun _ _ _ h => h) (Or.inl ⟨by rfl, fun W hW => ?_⟩) hHeld ?_
        rotate_left
        · (go_simp; try with_reducible rfl)
        simp only [Act.put, List.setIfInBounds_toArray, List.set_cons_zero, List.set_cons_succ]
        refine takeH (v := ?_) 8 61 rfl rfl (by kernel_rfl) (by kernel_rfl) (by kernel_rfl) (fun _ _ _ h => h) (Or.inl ⟨by rfl, fun W hW => ?_⟩) hHeld ?_
        rotate_left
        · (go_simp; try with_reducible rfl)
        simp only [Act.put, List.setIfInBounds_toArray, List.set_cons_zero, List.set_cons_succ]
        refine takeH (v := ?_) 9 62 rfl rfl (by kernel_rfl) (by kernel_rfl) (by kernel_rfl) (fun _ _ _ h => h) (Or.inl ⟨by rfl, fun W hW => ?_⟩) hHeld ?_
        rotate_left
        · (go_simp; try with_reducible rfl)
        simp only [Act.put, List.setIfInBounds_toArray, List.set_cons_zero, List.set_cons_succ]
        refine takeH (v := ?_) 10 63 rfl rfl (by kernel_rfl) (by kernel_rfl) (by kernel_rfl) (fun _ _ _ h => h) (Or.inl ⟨by rfl, fun W hW => ?_⟩) hHeld ?_
        rotate_left
        · (go_simp; try with_reducible rfl)
        simp only [Act.put, List.setIfInBounds_toArray, List.set_cons_zero, List.set_cons_succ]
        refine takeH (v := ?_) 11 64 rfl rfl (by kernel_rfl) (by kernel_rfl) (by kernel_rfl) (fun _ _ _ h => h) (Or.inl ⟨by rfl, fun W hW => ?_⟩) hHeld ?_
        rotate_left
        · (go_simp; try with_reducible rfl)
        simp only [Act.put, List.setIfInBounds_toArray, List.set_cons_zero, List.set_cons_succ]
        refine takeH (v := ?_) 12 65 rfl rfl (by kernel_rfl) (by kernel_rfl) (by kernel_rfl) (fun _ _ _ h => h) (Or.inl ⟨by rfl, fun W hW => ?_⟩) hHeld ?_
        rotate_left
        · (go_simp; try with_reducible rfl)
        simp only [Act.put, List.setIfInBounds_toArray, List.set_cons_zero, List.set_cons_succ]
        refine takeH (v := ?_) 13 66 rfl rfl (by kernel_rfl) (by kernel_rfl) (by kernel_rfl) (fun _ _ _ h => h) (Or.inl ⟨by rfl, fun W hW => ?_⟩) hHeld ?_
        rotate_left
        · (go_simp; try with_reducible rfl)
        simp only [Act.put, List.setIfInBounds_toArray, List.set_cons_zero, List.set_cons_succ]
        refine takeH (v := ?_) 14 67 rfl rfl (by kernel_rfl) (by kernel_rfl) (by kernel_rfl) (fun _ _ _ h => h) (Or.inl ⟨by rfl, fun W hW => ?_⟩) hHeld ?_
        rotate_left
        · (go_simp; try with_reducible rfl)
        simp only [Act.put, List.setIfInBounds_toArray, List.set_cons_zero, List.set_cons_succ]
        refine takeH (v := ?_) 15 68 rfl rfl (by kernel_rfl) (by kernel_rfl) (by kernel_rfl) (fun _ _ _ h => h) (Or.inl ⟨by rfl, fun W hW => ?_⟩) hHeld ?_
        rotate_left
        · (go_simp; try with_reducible rfl)
        simp only [Act.put, List.setIfInBounds_toArray, List.set_cons_zero, List.set_cons_succ]
        refine takeH (v := ?_) 18 71 rfl rfl (by kernel_rfl) (by kernel_rfl) (by kernel_rfl) (fun _ _ _ h => h) (Or.inl ⟨by rfl, fun W hW => ?_⟩) hHeld ?_
        rotate_left
        · (go_simp; try with_reducible rfl)
        simp only [Act.put, List.setIfInBounds_toArray, List.set_cons_zero, List.set_cons_succ]
        refine takeH (v := ?_) 19 72 rfl rfl (by kernel_rfl) (by kernel_rfl) (by kernel_rfl) (fun _ _ _ h => h) (Or.inl ⟨by rfl, fun W hW => ?_⟩) hHeld ?_
        rotate_left
        · (have c := CV.out W hW; go_simp; try with_reducible rfl)
        simp only [Act.put, List.setIfInBounds_toArray, List.set_cons_zero, List.set_cons_succ]
        refine callH 16 69 rfl rfl (by kernel_rfl) (by rfl) (by go_simp; first | exact ⟨rfl, rfl⟩ | rfl) ?_
        refine (TA.out).mono ?_
        rintro e w4 ⟨rfl, cn, x4⟩
        have CN := hid cn
        refine ⟨_, rfl, x4, ?_⟩
        refine wpAnyH_more (S2 := fun W => Ext w4 W) (fun W hW => x4.trans hW) _ _ _ _ ?_
        have X4 := hid (X3.out.trans x4)
        clear cn x4 hHeld TA CV X3
        have hHeld : Ext w4 w4 := Ext.refl w4
        simp only [Act.put, List.setIfInBounds_toArray, List.set_cons_zero, List.set_cons_succ]
        refine takeH (v := ?_) 17 70 rfl rfl (by kernel_rfl) (by kernel_rfl) (by kernel_rfl) (fun _ _ _ h => h) (Or.inl ⟨by rfl, fun W hW => ?_⟩) hHeld ?_
        rotate_left
        · (have c := CN.out W hW; go_simp; try with_reducible rfl)
        simp only [Act.put, List.setIfInBounds_toArray, List.set_cons_zero, List.set_cons_succ]
        refine takeH (v := ?_) 20 73 rfl rfl (by kernel_rfl) (by kernel_rfl) (by kernel_rfl) (fun _ _ _ h => h) (Or.inl ⟨by rfl, fun W hW => ?_⟩) hHeld ?_
        rotate_left
        · (go_simp; try with_reducible rfl)
        simp only [Act.put, List.setIfInBounds_toArray, List.set_cons_zero, List.set_cons_succ]
        refine takeH (v := ?_) 21 74 rfl rfl (by kernel_rfl) (by kernel_rfl) (by kernel_rfl) (fun _ _ _ h => h) (Or.inl ⟨by rfl, fun W hW => ?_⟩) hHeld ?_
        rotate_left
        · (go_simp; try with_reducible rfl)
        simp only [Act.put, List.setIfInBounds_toArray, List.set_cons_zero, List.set_cons_succ]
        refine takeH (v := ?_) 22 75 rfl rfl (by kernel_rfl) (by kernel_rfl) (by kernel_rfl) (fun _ _ _ h => h) (Or.inl ⟨by rfl, fun W hW => ?_⟩) hHeld ?_
        rotate_left
        · (go_simp; try with_reducible rfl)
        simp only [Act.put, List.setIfInBounds_toArray, List.set_cons_zero, List.set_cons_succ]
        refine takeH (v := ?_) 23 76 rfl rfl (by kernel_rfl) (by kernel_rfl) (by kernel_rfl) (fun _ _ _ h => h) (Or.inl ⟨by rfl, fun W hW => ?_⟩) hHeld ?_
        rotate_left
        · (go_simp; try with_reducible rfl)
        simp only [Act.put, List.setIfInBounds_toArray, List.set_cons_zero, List.set_cons_succ]
        refine callH 24 77 rfl rfl (by kernel_rfl) (by rfl) (by go_simp; first | exact ⟨rfl, rfl⟩ | rfl) ?_
        refine (TN.out _).mono ?_
        rintro e w5 ⟨rfl, x5⟩
        refine ⟨_, rfl, x5, ?_⟩
        clear hHeld
        have hHeld : Ext w4 w5 := x5
        simp only [Act.put, List.setIfInBounds_toArray, List.set_cons_zero, List.set_cons_succ]
        refine takeH (v := ?_) 25 78 rfl rfl (by kernel_rfl) (by kernel_rfl) (by kernel_rfl) (fun _ _ _ h => h) (Or.inl ⟨by rfl, fun W hW => ?_⟩) hHeld ?_
        rotate_left
        · (go_simp; try with_reducible rfl)
        simp only [Act.put, List.setIfInBounds_toArray, List.set_cons_zero, List.set_cons_succ]
        refine takeH (v := ?_) 26 79 rfl rfl (by kernel_rfl) (by kernel_rfl) (by kernel_rfl) (fun _ _ _ h => h) (Or.inl ⟨by rfl, fun W hW => ?_⟩) hHeld ?_
        rotate_left
        · (go_simp; try with_reducible rfl)
        simp only [Act.put, List.setIfInBounds_toArray, List.set_cons_zero, List.set_cons_succ]
        refine takeH (v := ?_) 27 80 rfl rfl (by kernel_rfl) (by kernel_rfl) (by kernel_rfl) (fun _ _ _ h => h) (Or.inl ⟨by rfl, fun W hW => ?_⟩) hHeld ?_
        rotate_left
        · (go_simp; try with_reducible rfl)
        simp only [Act.put, List.setIfInBounds_toArray, List.set_cons_zero, List.set_cons_succ]
        refine takeH (v := ?_) 28 81 rfl rfl (by kernel_rfl) (by kernel_rfl) (by kernel_rfl) (fun _ _ _ h => h) (Or.inl ⟨by rfl, fun W hW => ?_⟩) hHeld ?_
        rotate_left
        · (go_simp; try with_reducible rfl)
        simp only [Act.put, List.setIfInBounds_toArray, List.set_cons_zero, List.set_cons_succ]
        refine callH 29 82 rfl rfl (by kernel_rfl) (by rfl) (by go_simp; first | exact ⟨rfl, rfl⟩ | rfl) ?_
        refine (awake6_any _).mono ?_
        rintro e w6 ⟨rfl, x6⟩
        refine ⟨_, rfl, x5.trans x6, ?_⟩
        clear hHeld
        have hHeld : Ext w4 w6 := x5.trans x6
        simp only [Act.put, List.setIfInBounds_toArray, List.set_cons_zero, List.set_cons_succ]
        refine takeH (v := ?_) 30 83 rfl rfl (by kernel_rfl) (by kernel_rfl) (by kernel_rfl) (fun _ _ _ h => h) (Or.inl ⟨by rfl, fun W hW => ?_⟩) hHeld ?_
        rotate_left
        · (go_simp; try with_reducible rfl)
        simp only [Act.put, List.setIfInBounds_toArray, List.set_cons_zero, List.set_cons_succ]
        refine takeH (v := ?_) 31 4 rfl rfl (by kernel_rfl) (by kernel_rfl) (by kernel_rfl) (fun _ _ _ h => h) (Or.inl ⟨by rfl, fun W hW => ?_⟩) hHeld ?_
        rotate_left
        · (go_simp; try with_reducible rfl)
        simp only [Act.put, List.setIfInBounds_toArray, List.set_cons_zero, List.set_cons_succ]
        refine wpAnyH_done (by kernel_rfl) ?_ _
        have X6 := hid (X4.out.trans hHeld)
        clear hHeld x5 x6 X4 CN TN
        go_wp2_with fail
        go_ret
        exact ⟨rfl, X6.out⟩
end Go.Proofs.Ytekkfoncbcibiaa.crcTurns
