/-
  The walk of TripCopies: a copy tells the same, and goes on by itself.
-/
import Derived.Test.YtgdjdcedjegkjaaTrpPlay
namespace Go.Proofs.Ytgdjdcedjegkjaa.tripCopies
set_option linter.unusedVariables false
set_option maxRecDepth 100000
open Go.RowKit Go.Lib Go.Proofs.Ytgdjdcedjegkjaa.Trp

/-- a trip at b, its copy at cb -/
def CoS (w : World) (b cb : Nat) (wr : World) (r s : TS) : Prop := TrpV wr b r ∧ PlS w cb wr s ∧ b ≠ cb
theorem CoS.start {w : World} {b cb : Nat} {w1 w2 : World} {r : TS} (h : PlS w b w1 r) (hv : TrpV w2 cb r) (hc : w1.heap.size ≤ cb) (e : Ext w1 w2) : CoS w b cb w2 r r := by
  have hb := h.1.lt
  have hw := h.2.1.size
  exact ⟨h.1.ext e, ⟨hv, h.2.1.trans e, by omega⟩, by omega⟩
theorem CoS.ext {w : World} {b cb : Nat} {wr w' : World} {r s : TS} (h : CoS w b cb wr r s) (e : Ext wr w') : CoS w b cb w' r s := ⟨h.1.ext e, h.2.1.ext e, h.2.2⟩
theorem CoS.sample {w : World} {b cb : Nat} {V : World} {r s : TS} (c : CoS w b cb V r s) (hn : s.2 ≤ 1000) (a e h : Int) :
    Calls Try.prog 13 #[.pointer (some ⟨cb, 0, none⟩), .int .i64 a, .int .i64 e, .int .i64 h] V fun x w' => x = .returned (.int .i64 (err (lasted a e h))) ∧ CoS w b cb w' r (tst s (lasted a e h)) := by
  refine (c.2.1.sample hn a e h).mono ?_
  rintro x w' ⟨rfl, p, k⟩
  exact ⟨rfl, c.1.kept k c.2.2, p, c.2.2⟩

set_option maxHeartbeats 4000000 in
theorem walk (fr : Int) (v0 : Value) (l : List Tri) (v1 : Value) (more : List Tri) (w : World) (wf : (Lit.int .u64 fr).wf = true) (hz : OpsK (fun _ => True) w v0 l) (hm : OpsK (fun _ => True) w v1 more) : Calls Try.prog 5 #[.int .u64 fr, v0, v1] w fun e w' => e = .returned (.bool true) ∧ Ext w w' := by
  obtain ⟨f0, f1⟩ := Go.bounds_u64 wf
  clear wf
  have AW := hid (fun V => awake_any V)
  obtain ⟨ao, c, rfl, k1, k2⟩ := hz.slice
  obtain ⟨mo, mc, rfl, k3, k4⟩ := hm.slice
  by_cases big : 40 < l.length ∨ 40 < more.length
  · obtain ⟨N, eN⟩ : ∃ N, N = l.length := ⟨_, rfl⟩
    obtain ⟨M, eM⟩ : ∃ M, M = more.length := ⟨_, rfl⟩
    rw [← eN] at big k1 ⊢
    rw [← eM] at big k3 ⊢
    unfold maxLen at k2 k4
    by_cases b0 : 40 < N
    · have b1 : (40 : Int) < (N : Int) := by omega
      clear hz hm eN eM big b0
      go_enter Try.func5, Try.ntmps5
      go_wp2_with fail
      refine (AW.out _).mono ?_
      rintro e wz ⟨rfl, xz⟩
      have XZ := hid xz
      clear xz
      go_wp2_with fail
      go_ret
      exact ⟨rfl, XZ.out⟩
    · have b1 : ¬ (40 : Int) < (N : Int) := by omega
      have b2 : (40 : Int) < (M : Int) := by omega
      clear hz hm eN eM big b0
      go_enter Try.func5, Try.ntmps5
      go_wp2_with fail
      refine (AW.out _).mono ?_
      rintro e wz ⟨rfl, xz⟩
      have XZ := hid xz
      clear xz
      go_wp2_with fail
      go_ret
      exact ⟨rfl, XZ.out⟩
  have PL := hid (played_any fr _ l w f0 (by omega) hz (by omega))
  have PM := hid (fun (K : Nat → Prop) v V (h : OpsK K V v (l ++ more)) => played_any fr v (l ++ more) V f0 (by omega) h (by simp; omega))
  have HZ := hid hz
  have HM := hid hm
  have OPM := hid hm.seen
  have GET : Hid (∀ k, k < more.length → ∃ q : Tri, more[k]? = some q) := fun k hk => ⟨_, List.getElem?_eq_getElem hk⟩
  have NXT := hid (fun (s : TS) k q h => fold_next s more k q h)
  have LEN : Hid (l.length ≤ 40 ∧ more.length ≤ 40) := ⟨by omega, by omega⟩
  have LE : Hid (∀ k, k ≤ more.length → ((more.take k).foldl tstep (trun fr l)).2 ≤ 1000) := fun k hk => by
    have e1 := fold_le (more.take k) (trun fr l)
    have e2 := trun_le fr l
    rw [List.length_take, Nat.min_eq_left hk] at e1
    omega
  obtain ⟨N, eN⟩ : ∃ N, N = l.length := ⟨_, rfl⟩
  obtain ⟨M, eM⟩ : ∃ M, M = more.length := ⟨_, rfl⟩
  have EM := hid eM
  have EN := hid eN
  rw [← eN] at big k1 PL HZ ⊢
  rw [← eM] at big k3 GET HM LE ⊢
  have b1 : ¬ (40 : Int) < (N : Int) := by omega
  have b2 : ¬ (40 : Int) < (M : Int) := by omega
  unfold maxLen at k2 k4
  obtain ⟨r, er⟩ : ∃ r, r = trun fr l := ⟨_, rfl⟩
  have ES : Hid (trun fr (l ++ more) = more.foldl tstep r) := by show _ = _; rw [trun_append, er]
  rw [← er] at PL LE
  clear hz hm eN eM big er
  go_enter Try.func5, Try.ntmps5
  go_wp2_with fail
  refine PL.out.mono ?_
  rintro e w1 ⟨b, rfl, ps⟩
  have PS := hid ps
  have CP := hid (copy_any b r w1 ps.1)
  clear PL ps
  go_wp2_with fail
  refine CP.out.mono ?_
  rintro e w2 ⟨cb, rfl, hv, hc, x2⟩
  have S0 : Hid (CoS w b cb w2 r ((more.take 0).foldl tstep r)) := CoS.start PS.out hv hc x2
  clear CP hv hc x2 PS
  go_wp2_with fail
  go_loopw [43] (fun iv wr => ∃ k : Nat, k ≤ M ∧ iv = .int .i64 (k : Int) ∧ Hid (CoS w b cb wr r ((more.take k).foldl tstep r))) (fun iv _ => (M - RowKit.intOf iv).toNat)
  case atStart => exact ⟨0, by omega, rfl, S0⟩
  case round =>
    obtain ⟨k, hk, rfl, HH⟩ := hrel
    clear S0
    by_cases q : k < M
    · have i1 : (k : Int) < (M : Int) := by omega
      have i2 : (0 : Int) ≤ (k : Int) := by omega
      obtain ⟨⟨a, e, h⟩, eo⟩ := GET.out k q
      obtain ⟨g, o, rfl, y0, y1, y2⟩ := OPM.out k _ eo _ HH.out.2.1.2.1
      have NX : Hid ((more.take (k + 1)).foldl tstep r = tst ((more.take k).foldl tstep r) (lasted a e h)) := NXT.out r k _ eo
      have LK := LE.out k hk
      simp only at y0 y1 y2
      have SMP := hid ((HH.out.ext (bx_ext wr a e h)).sample LK a e h)
      rw [← NX.out] at SMP
      have E1 : Hid (wr.alloc (.cells #[.int .i64 a, .int .i64 e, .int .i64 h] 35) = bx wr a e h) := rfl
      clear OPM GET NXT LE eo HH NX LK
      go_wp2_with fail
      rw [E1.out]
      refine SMP.out.mono ?_
      rintro x w' ⟨rfl, s2⟩
      have F2 := hid s2
      clear SMP s2
      go_wp2_with fail
      go_roundw
      case rel => exact ⟨k + 1, by omega, by go_num, F2⟩
      case measure => simp [RowKit.intOf]; omega
    · obtain rfl : M = k := by omega
      have S4 : Hid (CoS w b cb wr r (more.foldl tstep r)) := by
        have h := HH.out
        rw [EM.out, List.take_length] at h
        exact h
      obtain ⟨w4, e4⟩ : ∃ w4, w4 = wr := ⟨_, rfl⟩
      rw [← e4] at S4 ⊢
      clear e4 HH OPM GET NXT LE wr q
      have XW := S4.out.2.1.2.1
      obtain ⟨w5, e5⟩ : ∃ w5, w5 = w4.alloc (.cells #[] 35) := ⟨_, rfl⟩
      have X5 : Ext w4 w5 := by rw [e5]; exact (Ext.refl w4).alloc _
      have N0 : NewR three 35 3 w4 w5 (.slice (some ⟨w4.heap.size, 0, none⟩) 0 0) [] := ⟨by rw [e5]; exact Own.made _ _ _ w4, fun k hk => by simp only [Value.ownBlock, Option.some.injEq] at hk; omega, X5⟩
      obtain ⟨v1, w6, r1, N1, _⟩ := N0.put elemsT encT 24 (.slice ao N c) l (HZ.out.ext (XW.trans X5)) (by have := LEN.out; simp; omega)
      rw [List.nil_append] at N1
      obtain ⟨v2, w7, r2, N2, _⟩ := N1.put elemsT encT 24 (.slice mo M mc) more (HM.out.ext (XW.trans N1.2.2)) (by have := LEN.out; omega)
      obtain ⟨a1, c1, ev1, _⟩ := N1.slice
      obtain ⟨a2, c2, ev2, _⟩ := N2.slice
      have R1 := hid r1
      have R2 := hid r2
      have E5 := hid e5
      have X7 := hid N2.2.2
      have P2 := hid (PM.out _ v2 w7 (N2.row encT))
      rw [ES.out] at P2
      obtain ⟨Y1, eY1⟩ : ∃ Y, Y = l.length := ⟨_, rfl⟩
      obtain ⟨Y2, eY2⟩ : ∃ Y, Y = (l ++ more).length := ⟨_, rfl⟩
      rw [← eY1] at ev1
      rw [← eY2] at ev2
      subst ev1 ev2
      clear PM XW X5 N0 N1 N2 r1 r2 e5 eY1 eY2 HZ HM
      go_wp2_with (first
        | (at_builtin; rw [← E5.out]; refine wpList_append_run _ rfl (.tmp 58) (.tmp 59) 24 24 rfl _ _ rfl rfl _ _ R1.out ?_)
        | (at_builtin; refine wpList_append_run _ rfl (.tmp 60) (.tmp 61) 24 24 rfl _ _ rfl rfl _ _ R2.out ?_))
      refine P2.out.mono ?_
      rintro e w8 ⟨gb, rfl, pg⟩
      have S8 := hid (S4.out.ext (X7.out.trans pg.2.1))
      clear P2 pg S4 R1 R2
      obtain ⟨s, es⟩ : ∃ s, s = more.foldl tstep r := ⟨_, rfl⟩
      rw [← es] at S8 ⊢
      clear es
      go_wp2_with fail
      refine (get_any b _ w8 S8.out.1).mono ?_
      rintro e w9 ⟨rfl, ew⟩
      obtain rfl : w8 = w9 := ew.symm
      go_wp2_with fail
      refine (known_any b _ w8 S8.out.1).mono ?_
      rintro e w9 ⟨rfl, ew⟩
      obtain rfl : w8 = w9 := ew.symm
      go_wp2_with fail
      refine (get_any cb _ w8 S8.out.2.1.1).mono ?_
      rintro e w9 ⟨rfl, ew⟩
      obtain rfl : w8 = w9 := ew.symm
      go_wp2_with fail
      refine (known_any cb _ w8 S8.out.2.1.1).mono ?_
      rintro e w9 ⟨rfl, ew⟩
      obtain rfl : w8 = w9 := ew.symm
      go_wp2_with fail
      refine (AW.out _).mono ?_
      rintro e wz ⟨rfl, xz⟩
      have XZ := hid (S8.out.2.1.2.1.trans xz)
      clear xz
      go_wp2_with fail
      go_ret
      exact ⟨rfl, XZ.out⟩
end Go.Proofs.Ytgdjdcedjegkjaa.tripCopies
