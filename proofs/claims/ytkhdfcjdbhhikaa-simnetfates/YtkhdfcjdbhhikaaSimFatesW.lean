/-
  The walk of SimnetFates: of many messages to one receiver just those come that are not lost, turned ones turned, doubled ones twice.
-/
import Derived.Test.YtkhdfcjdbhhikaaSimAwake
import Derived.Test.YtkhdfcjdbhhikaaSimOpenA
import Derived.Test.YtkhdfcjdbhhikaaSimFatesM
import Derived.Test.YtkhdfcjdbhhikaaRoundRegion
namespace Go.Proofs.Ytkhdfcjdbhhikaa.simnetFates
set_option linter.unusedVariables false
set_option maxRecDepth 100000
open Go.RowKit Go.Lib Go.Shelf Go.Proofs.Ytkhdfcjdbhhikaa.Sim Go.Proofs.Ytkhdfcjdbhhikaa.Grp Go.Proofs.Ytkhdfcjdbhhikaa.Crc
open Go.Proofs.Ytkhdfcjdbhhikaa.Pip hiding NewR
attribute [local go_sem] Oper.semAt_some

def fc : Cfg := (1, 0, 256, 0, 0)
/-- behind k messages -/
def fx (fs : List (Int × Int)) (t : List UInt8) : Nat → St
  | 0 => st0 1
  | k + 1 => gv fc fs 5 t (fx fs t k) 0
def wnt (fs : List (Int × Int)) : Nat → Nat
  | 0 => 0
  | k + 1 => wnt fs k + wf1 (fate fs k)
theorem wnt_le (fs : List (Int × Int)) : ∀ k, wnt fs k ≤ 2 * k
  | 0 => Nat.le_refl _
  | k + 1 => by
    have := wnt_le fs k
    unfold wnt wf1
    split
    · omega
    · split <;> omega
theorem fx_inv (fs : List (Int × Int)) (t : List UInt8) (hl : fs.length ≤ 100) : ∀ k, k ≤ fs.length → (fx fs t k).1.length = 2 ∧ (fx fs t k).2.1 = k ∧ FInv t k (wnt fs k) ((fx fs t k).1.getD 0 []) (fx fs t k).2.2
  | 0, _ => ⟨rfl, rfl, FInv.start t⟩
  | k + 1, hk => by
    obtain ⟨h1, h2, h3⟩ := fx_inv fs t hl k (by omega)
    have hw := wnt_le fs k
    refine ⟨by unfold fx; rw [gv_length]; exact h1, ?_, ?_⟩
    · unfold fx gv usd
      simp only
      rw [h2, if_pos (by omega)]
    · have := h3.step (by omega) 5 (by omega) (fate fs k)
      unfold fx gv
      simp only
      rw [h2, set_getD _ _ _ _ _ (by omega), if_pos rfl]
      exact this

theorem fx_bound (fs : List (Int × Int)) (t : List UInt8) : ∀ k : Nat, SB (4 * (k : Int)) (fx fs t k).2.2
  | 0 => by unfold fx st0 SB; simp
  | k + 1 => (gv_bound fc fs 5 t _ 0 (fx_bound fs t k)).mono (by omega)
theorem fates_at {K : Nat → Prop} {w : World} {fo : Option Addr} {n c : Nat} {l : List (Int × Int)} (h : RowK K w (.slice fo n c) 2 (fcells pr l)) {k : Nat} {f : Int × Int} (hk : l[k]? = some f) : ∃ g o, fo = some ⟨g, o, none⟩ ∧ w.cell? ⟨g, o + k * 2, none⟩ = some (.int .i64 f.1) ∧ w.cell? ⟨g, o + k * 2 + 1, none⟩ = some (.int .i64 f.2) := by
  obtain ⟨ao, n', c', e, h1, h2, h3, h4⟩ := h
  simp only [Value.slice.injEq] at e
  obtain ⟨rfl, rfl, rfl⟩ := e
  rw [fcells_length encP] at h1
  have := (List.getElem?_eq_some_iff.1 hk).1
  obtain ⟨g, o, ea, _, hc⟩ := h4 (by omega)
  refine ⟨g, o, ea, ?_, ?_⟩
  · have := hc (k * 2) _ (by have := fcells_at encP hk (j := 0) (by decide); rw [Nat.add_zero] at this; rw [this]; rfl)
    exact this
  · have := hc (k * 2 + 1) _ (by rw [fcells_at encP hk (j := 1) (by decide)]; rfl)
    rw [← Nat.add_assoc] at this
    exact this

/-- what the loop has counted -/
def SeenF (w6 : World) (Ki : Nat → Prop) (h : Nat) (t : List UInt8) (pre : Ms) (W : World) : Prop := W.heap[h]? = some (.cells #[.int .i64 (pre.length : Int)] 3 (0, 0)) ∧ W.heap[h + 1]? = some (.cells #[.int .i64 (pln t pre : Int)] 3 (0, 0)) ∧ Kept (fun q => Ki q ∧ ¬ (q = h ∨ q = h + 1)) w6 W

theorem fmem : mem 0 0 [(0, 0, 0)] 0 5 1 = [0] := by decide

set_option maxHeartbeats 4000000 in
theorem walk (v0 : Value) (fs : List (Int × Int)) (v1 : Value) (t : List UInt8) (w : World) (hf : FatesIn w v0 fs) (hb : BytesIn w v1 t) : Calls Try.prog 6 #[v0, v1] w fun e w' => e = .returned (.bool true) ∧ Ext w w' := by
  have AW := hid (fun W => awake_any W)
  obtain ⟨hf, hfb⟩ := hf
  obtain ⟨hb, hpl⟩ := hb
  obtain ⟨fo, fcap, ev0, fk1, fk2, fvw⟩ := fates_view hf
  obtain ⟨bo, bn, bcap, ev1, bk1, bk2, bk3, _⟩ := id hb
  rw [bcells_length, Nat.mul_one] at bk1
  subst bk1
  have HF := hid hf
  have HB := hid hb
  have HPL := hid hpl
  have HFB := hid hfb
  subst ev0 ev1
  unfold maxLen at fk2 bk3
  obtain ⟨W0, e0⟩ : ∃ W0, W0 = w.alloc (.cells #[.slice bo t.length bcap] 41) := ⟨_, rfl⟩
  have X0 : Ext w W0 := by rw [e0]; exact (Ext.refl w).alloc _
  have r0 : W0.heap[w.heap.size]? = some (.cells #[.slice bo t.length bcap] 41 (0, 0)) := by rw [e0]; exact heap_alloc_new w _
  clear hf hb hpl hfb fvw
  obtain ⟨FN, eFN⟩ : ∃ FN, FN = fs.length := ⟨_, rfl⟩
  have EFN := hid eFN
  obtain ⟨TN, eTN⟩ : ∃ TN, TN = t.length := ⟨_, rfl⟩
  have ETN := hid eTN
  by_cases big : 100 < fs.length ∨ 300 < t.length
  · have c0 : W0.cell? ⟨w.heap.size, 0, none⟩ = some (.slice bo t.length bcap) := by rw [cell_of_row _ _ 0 _ _ _ r0]; rfl
    rw [e0] at c0
    have E0 := hid e0
    have XX := hid X0
    rw [← eFN] at fk1 HF big
    rw [← eTN] at c0 bk2 HB big E0 HPL
    rw [← eFN, ← eTN]
    clear eFN eTN r0 e0 X0
    by_cases big1 : 100 < FN
    · have b1 : (100 : Int) < (FN : Int) := by omega
      clear big
      go_enter Try.func6, Try.ntmps6
      go_wp2_with fail
      rw [← E0.out]
      refine (AW.out _).mono ?_
      rintro e w7 ⟨rfl, x7⟩
      have X7 := hid (XX.out.trans x7)
      clear x7
      go_wp2_with fail
      go_ret
      exact ⟨rfl, X7.out⟩
    · have b1 : ¬ (100 : Int) < (FN : Int) := by omega
      have b2 : (300 : Int) < (TN : Int) := by omega
      clear big
      go_enter Try.func6, Try.ntmps6
      go_wp2_with fail
      rw [← E0.out]
      refine (AW.out _).mono ?_
      rintro e w7 ⟨rfl, x7⟩
      have X7 := hid (XX.out.trans x7)
      clear x7
      go_wp2_with fail
      go_ret
      exact ⟨rfl, X7.out⟩
  · have h100 : fs.length ≤ 100 := by omega
    have h300 : t.length ≤ 300 := by omega
    have r0' := hid r0
    have XX := hid X0
    have FK : Hid (RowK (fun q => q < W0.heap.size) W0 (.slice fo fs.length fcap) 2 (fcells pr fs)) := (HF.out.mono (L := fun q => q < W0.heap.size) (by decide) (fun i hi _ => Nat.lt_of_lt_of_le hi X0.size)).kept (Kept.of_ext X0)
    have BK : Hid (RowK (fun q => q < W0.heap.size) W0 (.slice bo t.length bcap) 1 (bcells t)) := (HB.out.mono (L := fun q => q < W0.heap.size) (by decide) (fun i hi _ => Nat.lt_of_lt_of_le hi X0.size)).kept (Kept.of_ext X0)
    have N := hid (new_net fc 1 rfl (by unfold okCfg fc; simp) _ (.slice fo fs.length fcap) fs W0 FK.out (by omega))
    rw [show ccs fc = #[.int .i64 1, .int .i64 0, .int .i64 256, .int .i64 0, .int .i64 0] from rfl] at N
    have c0 : W0.cell? ⟨w.heap.size, 0, none⟩ = some (.slice bo t.length bcap) := by rw [cell_of_row _ _ 0 _ _ _ r0]; rfl
    have wlt : w.heap.size < W0.heap.size := lt_of_row r0
    rw [e0] at c0
    have E0 := hid e0
    have INV := hid (fx_inv fs t h100)
    have WLE := hid (wnt_le fs)
    rw [← eFN] at fk1 HF N FK INV h100
    rw [← eTN] at c0 bk2 HB E0 HPL BK h300
    rw [← eFN, ← eTN]
    clear eFN eTN r0 e0 X0 big
    have b1 : ¬ (100 : Int) < (FN : Int) := by omega
    have b2 : ¬ (300 : Int) < (TN : Int) := by omega
    refine (callsIn_wide (n := 4)).1 (callsIn_of_wp_marks Try.func6 rfl trivial ?_ rfl)
    refine wpIn_wide.2 ?_
    simp only [Try.ntmps6, List.size_toArray, List.length_cons, List.length_nil, Nat.reduceAdd, Nat.reduceSub, Array.replicate_succ, Array.replicate_zero, List.push_toArray, List.append_toArray, List.nil_append, List.cons_append]
    go_wp2_with fail
    rw [← E0.out]
    refine N.out.mono ?_
    rintro e w1 ⟨b, bs, rfl, h1, x1⟩
    obtain ⟨gb, d0, AS, _⟩ := h1.group 1 rfl
    have A1 := AS (0, 0, 0)
    rw [show wrg fc.2.2.2.1 fc.2.2.2.2 (1 : Nat) [] (0, 0, 0) = 0 by decide, show aft fc.2.2.2.1 fc.2.2.2.2 (1 : Nat) [] (0, 0, 0) = [(0, 0, 0)] by decide] at A1
    have AA := hid A1
    have X1 := hid x1
    clear N h1 x1 AS A1
    go_wp2_with fail
    refine AA.out.mono ?_
    rintro e w2 ⟨rfl, h2, k2⟩
    have H2 : Hid (NetK (fun q => q < W0.heap.size) w2 b bs fc [(0, 0, 0)] fs (fx fs t 0)) := h2
    have K2 := hid ((Kept.of_ext (K := fun q => q < W0.heap.size) X1.out).trans k2)
    clear AA h2 k2 d0 X1
    go_wp2_with fail
    go_loopw [7, 9, 10, 11, 48, 68, 70] (fun wantv _ _ _ iv _ _ wr => ∃ k : Nat, k ≤ FN ∧ wantv = .int .i64 (wnt fs k : Int) ∧ iv = .int .i64 (k : Int) ∧ Hid (NetK (fun q => q < W0.heap.size) wr b bs fc [(0, 0, 0)] fs (fx fs t k)) ∧ Hid (Kept (fun q => q < W0.heap.size) W0 wr)) (fun _ _ _ _ iv _ _ _ => (FN - intOf iv).toNat)
    case atStart => exact ⟨0, by omega, rfl, rfl, H2, K2⟩
    case round =>
      obtain ⟨k, hk, rfl, rfl, hr, kr⟩ := hrel
      clear H2 K2
      have wb := WLE.out k
      by_cases q : k < FN
      · have kl : k < fs.length := by have := EFN.out; omega
        have ek : fs[k]? = some fs[k] := List.getElem?_eq_getElem kl
        obtain ⟨g, o, eg, y0, y1⟩ := fates_at (FK.out.kept kr.out) ek
        have ef : fate fs k = fs[k] := by unfold fate; rw [List.getD_eq_getElem?_getD, ek]; rfl
        have WS : Hid (wnt fs (k + 1) = wnt fs k + wf1 (fate fs k)) := rfl
        rw [ef] at WS
        obtain ⟨F, eF⟩ : ∃ F, F = fs[k] := ⟨_, rfl⟩
        rw [← eF] at y0 y1 WS
        clear eF ef ek
        obtain ⟨f1, f2⟩ := F
        simp only at y0 y1
        subst eg
        obtain ⟨V, eV⟩ : ∃ V, V = wr.alloc (.cells #[.int .i64 f1, .int .i64 f2] 63) := ⟨_, rfl⟩
        have XV : Ext wr V := by rw [eV]; exact (Ext.refl wr).alloc _
        have kV := kr.out.trans (Kept.of_ext XV)
        have rV : V.heap[wr.heap.size]? = some (.cells #[.int .i64 f1, .int .i64 f2] 63 (0, 0)) := by rw [eV]; exact heap_alloc_new wr _
        have cV : V.cell? ⟨w.heap.size, 0, none⟩ = some (.slice bo TN bcap) := by
          have := kV.row wlt r0'.out
          rw [cell_of_row _ _ 0 _ _ _ this, ETN.out]
          rfl
        have inv := INV.out k (by have := EFN.out; omega)
        have sb : SB 700000000 (fx fs t k).2.2 := (fx_bound fs t k).mono (by omega)
        have S := send_net (hr.out.more XV) 1 rfl 0 (.slice bo TN bcap) t 5 ((BK.out.kept kV).mono (L := fun q => q < W0.heap.size ∨ New wr V q) (by decide) (fun i _ h => .inl h)) HPL.out (by omega) (by omega) ⟨by omega, by omega, by have := ETN.out; omega⟩ sb (by have := EFN.out; omega) HFB.out
        rw [show mem fc.2.2.2.1 fc.2.2.2.2 [(0, 0, 0)] 0 5 1 = [0] from fmem, show gvs fc fs 5 t (fx fs t k) [0] = fx fs t (k + 1) from rfl, show ([(0 : Int)]).length = 1 from rfl] at S
        have SS := hid S
        have KV := hid kV
        have RV := hid rV
        have NV : Hid (New wr V wr.heap.size) := ⟨Nat.le_refl _, lt_of_row rV⟩
        rw [eV] at cV
        have EV := hid eV
        have i1 : (k : Int) < (FN : Int) := by omega
        have i2 : (0 : Int) ≤ (k : Int) := by omega
        have wb2 : (wnt fs k : Int) ≤ 200 := by omega
        have wb3 : (0 : Int) ≤ (wnt fs k : Int) := by omega
        have ew1 : IntKind.i64.wrap ((wnt fs k : Int) + 2) = (wnt fs k : Int) + 2 := IntWalk.i64_in _ (by omega)
        have ew2 : IntKind.i64.wrap ((wnt fs k : Int) + 1) = (wnt fs k : Int) + 1 := IntWalk.i64_in _ (by omega)
        clear hr kr S kV rV XV eV inv sb kl wb
        obtain ⟨Wk, eWk⟩ : ∃ Wk, Wk = wnt fs k := ⟨_, rfl⟩
        rw [← eWk] at WS wb2 wb3 ew1 ew2
        rw [← eWk]
        clear eWk
        go_wp2_with fail
        rw [← EV.out]
        refine SS.out.mono ?_
        rintro e w5 ⟨rfl, h5, k5⟩
        have r5 := k5.row (.inr NV.out) RV.out
        have z0 : w5.cell? ⟨wr.heap.size, 0, none⟩ = some (.int .i64 f1) := by rw [cell_of_row _ _ 0 _ _ _ r5]; rfl
        have H5 := hid (h5.less (L := fun q => q < W0.heap.size) (fun q hq => .inl hq))
        have K5 := hid (KV.out.trans (k5.mono (fun q hq => .inl hq)))
        clear SS h5 k5 r5 KV RV NV EV cV
        by_cases g1 : f1 = 1
        · have W1 : wnt fs (k + 1) = Wk := by rw [WS.out]; unfold wf1; rw [if_pos g1]; rfl
          subst g1
          have WW := hid W1
          clear W1 WS
          go_wp2_with fail
          go_roundw
          case rel => exact ⟨k + 1, by omega, by rw [WW.out], by go_num, H5, K5⟩
          case measure => simp [intOf]; omega
        · by_cases g2 : f1 = 2
          · have W1 : wnt fs (k + 1) = Wk + 2 := by rw [WS.out]; unfold wf1; rw [if_neg g1, if_pos g2]
            subst g2
            have WW := hid W1
            clear W1 WS
            go_wp2_with fail
            go_roundw
            case rel => exact ⟨k + 1, by omega, by rw [WW.out]; go_num, by go_num, H5, K5⟩
            case measure => simp [intOf]; omega
          · have W1 : wnt fs (k + 1) = Wk + 1 := by rw [WS.out]; unfold wf1; rw [if_neg g1, if_neg g2]
            have WW := hid W1
            have n1 : (f1 == 1) = false := by simpa using g1
            have n2 : (f1 == 2) = false := by simpa using g2
            clear W1 WS g1 g2
            go_wp2_with fail
            go_roundw
            case rel => exact ⟨k + 1, by omega, by rw [WW.out]; go_num, by go_num, H5, K5⟩
            case measure => simp [intOf]; omega
      · obtain rfl : k = FN := by omega
        obtain ⟨W1, eW⟩ : ∃ W1, W1 = (wr.alloc (.cells #[.int .i64 0] 3)).alloc (.cells #[.int .i64 0] 3) := ⟨_, rfl⟩
        have XW : Ext wr W1 := by rw [eW]; exact ((Ext.refl wr).alloc _).alloc _
        have z1 : W1.heap.size = wr.heap.size + 1 + 1 := by rw [eW]; simp
        have ra : W1.heap[wr.heap.size]? = some (.cells #[.int .i64 0] 3 (0, 0)) := by rw [eW]; exact heap_alloc2_old wr _ _
        have rb : W1.heap[wr.heap.size + 1]? = some (.cells #[.int .i64 0] 3 (0, 0)) := by rw [eW]; exact heap_alloc2_new wr _ _
        have h1 := hr.out.more XW
        have T := take_net h1 0 100 (show ((0 : Nat) : Int) < 1 by omega)
        unfold TakesAt at T
        rw [z1] at T
        have TT := hid T
        have H1 := hid h1
        have K1 := hid (kr.out.trans (Kept.of_ext XW))
        have RA := hid ra
        have RB := hid rb
        have EW := hid eW
        have Z1 := hid z1
        have WL : Hid (W0.heap.size ≤ wr.heap.size) := kr.out.size
        have inv := INV.out k (by have := EFN.out; omega)
        have SBK := hid (fx_bound fs t k)
        have IV := hid inv
        clear hr kr h1 T ra rb eW z1 XW inv
        go_wp2_with fail
        rw [← EW.out]
        refine TT.out.mono ?_
        rintro e w6 ⟨rfl, cb1, cb2, z6, x6⟩
        have h6 := H1.out.more x6
        obtain ⟨Ki, pk, hK1, fin⟩ := h6.oneL (L := fun q => q = wr.heap.size ∨ q = wr.heap.size + 1) (fun q hq => by
          have := Z1.out
          rcases hq with rfl | rfl
          · exact .inl (.inr ⟨Nat.le_refl _, by omega⟩)
          · exact .inl (.inr ⟨by omega, by omega⟩)) (i := 0) (by have := IV.out.1; omega)
        have FIN := hid fin
        have ka : Ki wr.heap.size := hK1 _ (.inl (.inr ⟨Nat.le_refl _, by have := Z1.out; omega⟩))
        have kb : Ki (wr.heap.size + 1) := hK1 _ (.inl (.inr ⟨by omega, by have := Z1.out; omega⟩))
        have kb1 : Ki (wr.heap.size + 1 + 1) := hK1 _ (.inr ⟨by have := Z1.out; omega, by omega⟩)
        have kb2 : Ki (wr.heap.size + 1 + 1 + 1) := hK1 _ (.inr ⟨by have := Z1.out; omega, by omega⟩)
        have kw : ∀ q, q < W0.heap.size → Ki q := fun q hq => hK1 _ (.inl (.inl hq))
        have CB1 := hid cb1
        have CB2 := hid cb2
        obtain ⟨L, eL⟩ : ∃ L, L = (fx fs t k).1.getD 0 [] := ⟨_, rfl⟩
        have pk' : PipK Ki w6 (bs 0) 256 (ord L) := by rw [eL]; exact pk
        have PK := hid pk'
        have LI : Hid (FInv t k (wnt fs k) L (fx fs t k).2.2) := by rw [eL]; exact IV.out.2.2
        have R6 : Hid (w6.heap[wr.heap.size]? = some (.cells #[.int .i64 ((([] : Ms).length : Nat) : Int)] 3 (0, 0)) ∧ w6.heap[wr.heap.size + 1]? = some (.cells #[.int .i64 ((pln t ([] : Ms) : Nat) : Int)] 3 (0, 0))) := ⟨x6.row RA.out, x6.row RB.out⟩
        have K6 := hid (K1.out.trans (Kept.of_ext x6))
        have LE : Hid (L.length ≤ 200) := by have h1 := LI.out.1; have h2 := WLE.out k; show L.length ≤ 200; omega
        clear TT cb1 cb2 pk pk' fin x6 h6 H1 RA RB EW K1 z6 hK1 eL IV
        go_wp2_with fail
        refine rangeP 77 (B1 := wr.heap.size + 1 + 1) (B2 := wr.heap.size + 1 + 1 + 1) (b := bs 0) (K := Ki) (room := 256) (now := 100) (l := ord L) rfl CB1.out CB2.out kb1 kb2 PK.out
          (fun _ pre W => SeenF w6 Ki wr.heap.size t pre W) (fun _ _ _ _ => False) ?hI (fun _ _ _ _ _ _ h _ => h) ⟨R6.out.1, R6.out.2, Kept.refl _ _⟩
          (fun tm s => (tm.setIfInBounds 77 (sval s)).setIfInBounds 14 (sval s)) ?assign ?body ?done ?stop
        case hI =>
          rintro K' pre A B hKK ⟨h1, h2, h3⟩ kk
          exact ⟨kk.row (hKK _ ka) h1, kk.row (hKK _ kb) h2, h3.trans (kk.mono (fun i hi => hKK _ hi.1))⟩
        case assign =>
          intro L s A Kc hK
          obtain ⟨s1, s2, s3⟩ := s
          simp only [sval, List.setIfInBounds_toArray, List.set_cons_zero, List.set_cons_succ] at hK ⊢
          gi_wp2
          exact hK
        case body =>
          rintro L2 K' pre m s A hKK ⟨h1, h2, h3⟩ hb1 hb2 hp hm ho hlen hns
          obtain ⟨s1, s2, s3⟩ := s
          have wl := WL.out
          have KA := K6.out.trans (h3.mono (fun q hq => ⟨kw q hq, by omega⟩))
          have kA1 : Kept (fun q => q ≠ wr.heap.size) A (A.setCell ⟨wr.heap.size, 0, none⟩ (.int .i64 ((pre.length : Int) + 1))) := (Kept.refl _ A).setCell (fun hne => hne rfl) _
          have CV : (convert 41 9 (.slice s1 s2 s3)).run Try.prog (A.setCell ⟨wr.heap.size, 0, none⟩ (.int .i64 ((pre.length : Int) + 1))) = .ok (.string (str m.2)) (A.setCell ⟨wr.heap.size, 0, none⟩ (.int .i64 ((pre.length : Int) + 1))) :=
            Bytes.str (OwnB.kept ho kA1 (fun g hg e => hns g hg (by subst e; exact hKK _ ka))).bytes
          have KA1 := KA.setCell (p := ⟨wr.heap.size, 0, none⟩) (by show ¬ wr.heap.size < W0.heap.size; omega) (.int .i64 ((pre.length : Int) + 1))
          have CV2 : (convert 41 9 (.slice bo TN bcap)).run Try.prog (A.setCell ⟨wr.heap.size, 0, none⟩ (.int .i64 ((pre.length : Int) + 1))) = .ok (.string (str t)) (A.setCell ⟨wr.heap.size, 0, none⟩ (.int .i64 ((pre.length : Int) + 1))) := Bytes.str (BK.out.kept KA1).bytes
          have ct : (A.setCell ⟨wr.heap.size, 0, none⟩ (.int .i64 ((pre.length : Int) + 1))).cell? ⟨w.heap.size, 0, none⟩ = some (.slice bo TN bcap) := by
            rw [cell_of_row _ _ 0 _ _ _ (KA1.row wlt r0'.out), ETN.out]; rfl
          have cg : A.cell? ⟨wr.heap.size, 0, none⟩ = some (.int .i64 (pre.length : Int)) := by rw [cell_of_row _ _ 0 _ _ _ h1]; rfl
          have fg : A.frozen? ⟨wr.heap.size, 0, none⟩ = false := frozen_of_row _ _ _ _ _ h1
          have q1 := setRow_heap A wr.heap.size _ (#[.int .i64 ((pre.length : Int) + 1)] : Array Value) _ _ h1
          have e1 : A.setCell ⟨wr.heap.size, 0, none⟩ (.int .i64 ((pre.length : Int) + 1)) = A.setRow wr.heap.size #[.int .i64 ((pre.length : Int) + 1)] := setCell_eq_setRow _ _ _ _ _ _ _ h1
          rw [← e1] at q1
          have q2 := kA1.row (by omega) h2
          have cp : (A.setCell ⟨wr.heap.size, 0, none⟩ (.int .i64 ((pre.length : Int) + 1))).cell? ⟨wr.heap.size + 1, 0, none⟩ = some (.int .i64 (pln t pre : Int)) := by rw [cell_of_row _ _ 0 _ _ _ q2]; rfl
          have fp : (A.setCell ⟨wr.heap.size, 0, none⟩ (.int .i64 ((pre.length : Int) + 1))).frozen? ⟨wr.heap.size + 1, 0, none⟩ = false := frozen_of_row _ _ _ _ _ q2
          have ln : pre.length ≤ 200 := by
            obtain ⟨r9, er⟩ := hp
            have h := congrArg List.length er
            rw [List.length_append, List.length_append, ord_length] at h
            have := LE.out
            have : L.length ≤ 200 := LE.out
            omega
          have lp : pln t pre ≤ pre.length := List.countP_le_length
          have el1 : ((pre ++ [m]).length : Int) = (pre.length : Int) + 1 := by simp
          have kB : Kept (fun q => Ki q ∧ ¬ (q = wr.heap.size ∨ q = wr.heap.size + 1)) w6 (A.setCell ⟨wr.heap.size, 0, none⟩ (.int .i64 ((pre.length : Int) + 1))) := h3.trans (kA1.mono (fun q hq e => hq.2 (.inl e)))
          have b1' : (A.setCell ⟨wr.heap.size, 0, none⟩ (.int .i64 ((pre.length : Int) + 1))).cell? ⟨wr.heap.size + 1 + 1, 0, none⟩ = some (.pointer (some ⟨bs 0, 0, none⟩)) := kA1.cell (by show wr.heap.size + 1 + 1 ≠ wr.heap.size; omega) hb1
          have b2' : (A.setCell ⟨wr.heap.size, 0, none⟩ (.int .i64 ((pre.length : Int) + 1))).cell? ⟨wr.heap.size + 1 + 1 + 1, 0, none⟩ = some (.int .i64 100) := kA1.cell (by show wr.heap.size + 1 + 1 + 1 ≠ wr.heap.size; omega) hb2
          by_cases same : m.2 = t
          · have ep : (pln t (pre ++ [m]) : Int) = (pln t pre : Int) + 1 := by rw [pln_snoc, if_pos same]; simp
            obtain ⟨A1, eA1⟩ : ∃ A1, A1 = A.setCell ⟨wr.heap.size, 0, none⟩ (.int .i64 ((pre.length : Int) + 1)) := ⟨_, rfl⟩
            have k2 : Kept (fun q => q ≠ wr.heap.size + 1) A1 (A1.setCell ⟨wr.heap.size + 1, 0, none⟩ (.int .i64 ((pln t pre : Int) + 1))) := (Kept.refl _ A1).setCell (fun hne => hne rfl) _
            rw [← eA1] at q1 q2 kB b1' b2'
            have q3 := setRow_heap A1 (wr.heap.size + 1) _ (#[.int .i64 ((pln t pre : Int) + 1)] : Array Value) _ _ q2
            have e2 : A1.setCell ⟨wr.heap.size + 1, 0, none⟩ (.int .i64 ((pln t pre : Int) + 1)) = A1.setRow (wr.heap.size + 1) #[.int .i64 ((pln t pre : Int) + 1)] := setCell_eq_setRow _ _ _ _ _ _ _ q2
            rw [← e2] at q3
            have R : Hid (KeepsOthers A (A1.setCell ⟨wr.heap.size + 1, 0, none⟩ (.int .i64 ((pln t pre : Int) + 1))) ∧ ∃ K2, Grown K' (s1, s2, s3) (bs 0) A K2 (A1.setCell ⟨wr.heap.size + 1, 0, none⟩ (.int .i64 ((pln t pre : Int) + 1))) ∧ SeenF w6 Ki wr.heap.size t (pre ++ [m]) (A1.setCell ⟨wr.heap.size + 1, 0, none⟩ (.int .i64 ((pln t pre : Int) + 1))) ∧ (A1.setCell ⟨wr.heap.size + 1, 0, none⟩ (.int .i64 ((pln t pre : Int) + 1))).cell? ⟨wr.heap.size + 1 + 1, 0, none⟩ = some (.pointer (some ⟨bs 0, 0, none⟩)) ∧ (A1.setCell ⟨wr.heap.size + 1, 0, none⟩ (.int .i64 ((pln t pre : Int) + 1))).cell? ⟨wr.heap.size + 1 + 1 + 1, 0, none⟩ = some (.int .i64 100)) :=
              ⟨by rw [eA1]; exact (KeepsOthers.setCell _ _ _).trans (KeepsOthers.setCell _ _ _), K', ⟨fun i h => h, fun i h => .inl h, fun K'' hK'' room v ml u => by
                rw [eA1]
                exact ((u.cell (hK'' _ (.inl (hKK _ ka))) 0 _).cell (hK'' _ (.inl (hKK _ kb))) 0 _).less (fun i h => h.elim id (fun q => hK'' i (.inl q)))⟩, ⟨by rw [el1]; exact k2.row (by omega) q1, by rw [ep]; exact q3, kB.trans (k2.mono (fun q hq e => hq.2 (.inr e)))⟩, k2.cell (by show wr.heap.size + 1 + 1 ≠ wr.heap.size + 1; omega) b1', k2.cell (by show wr.heap.size + 1 + 1 + 1 ≠ wr.heap.size + 1; omega) b2'⟩
            have sm : ((str m.2).toList == (str t).toList) = true := by rw [same]; simp
            have ew1 : IntKind.i64.wrap ((pre.length : Int) + 1) = (pre.length : Int) + 1 := IntWalk.i64_in _ (by omega)
            have ew2 : IntKind.i64.wrap ((pln t pre : Int) + 1) = (pln t pre : Int) + 1 := IntWalk.i64_in _ (by omega)
            rw [eA1] at R
            clear q1 q2 q3 e1 e2 k2 kB b1' b2' h1 h2 h3 hb1 hb2 hp ho hns KA KA1 kA1 el1 ep eA1 same
            simp only [sval, List.setIfInBounds_toArray, List.set_cons_zero, List.set_cons_succ]
            gi_wp2_with fail
            exact R.out
          · have ep : (pln t (pre ++ [m]) : Int) = (pln t pre : Int) := by rw [pln_snoc, if_neg same]; simp
            have R : Hid (KeepsOthers A (A.setCell ⟨wr.heap.size, 0, none⟩ (.int .i64 ((pre.length : Int) + 1))) ∧ ∃ K2, Grown K' (s1, s2, s3) (bs 0) A K2 (A.setCell ⟨wr.heap.size, 0, none⟩ (.int .i64 ((pre.length : Int) + 1))) ∧ SeenF w6 Ki wr.heap.size t (pre ++ [m]) (A.setCell ⟨wr.heap.size, 0, none⟩ (.int .i64 ((pre.length : Int) + 1))) ∧ (A.setCell ⟨wr.heap.size, 0, none⟩ (.int .i64 ((pre.length : Int) + 1))).cell? ⟨wr.heap.size + 1 + 1, 0, none⟩ = some (.pointer (some ⟨bs 0, 0, none⟩)) ∧ (A.setCell ⟨wr.heap.size, 0, none⟩ (.int .i64 ((pre.length : Int) + 1))).cell? ⟨wr.heap.size + 1 + 1 + 1, 0, none⟩ = some (.int .i64 100)) :=
              ⟨KeepsOthers.setCell _ _ _, K', ⟨fun i h => h, fun i h => .inl h, fun K'' hK'' room v ml u => (u.cell (hK'' _ (.inl (hKK _ ka))) 0 _).less (fun i h => h.elim id (fun q => hK'' i (.inl q)))⟩, ⟨by rw [el1]; exact q1, by rw [ep]; exact q2, kB⟩, b1', b2'⟩
            have sm : ((str m.2).toList == (str t).toList) = false := by rw [str_beq]; simpa using same
            have ew1 : IntKind.i64.wrap ((pre.length : Int) + 1) = (pre.length : Int) + 1 := IntWalk.i64_in _ (by omega)
            clear q1 q2 e1 kB b1' b2' h1 h2 h3 hb1 hb2 hp ho hns KA KA1 kA1 el1 ep same cp fp
            simp only [sval, List.setIfInBounds_toArray, List.set_cons_zero, List.set_cons_succ]
            gi_wp2_with fail
            exact R.out
        case stop => rintro D c K' pre rest A hD hKK nD el hf; exact hf.elim
        case done =>
          rintro D K' pre rest A hD hKK nD el hdue ⟨h1, h2, h3⟩ hwk hdf
          have hall : ∀ p ∈ rest, p.1 ≤ 100 := fun p hp => LI.out.2.1 p ((ord_perm L).mem_iff.1 (by rw [el]; exact List.mem_append_right _ hp))
          have hr0 : rest = [] := List.eq_nil_of_length_eq_zero (by have := du_all hall; omega)
          subst hr0
          rw [List.append_nil] at el
          subst el
          have h9 := FIN.out K' A [] hKK hwk h3
          rw [ord_length, LI.out.1] at h1
          rw [pln_ord] at h2
          have wl := WL.out
          have KA := K6.out.trans (h3.mono (fun q hq => ⟨kw q hq, by omega⟩))
          obtain ⟨l1, l2, l3, l4, l5, l6⟩ := LI.out
          have sbk := SBK.out
          have ST := stats_net h9
          obtain ⟨s, es⟩ : ∃ s, s = (fx fs t k).2.2 := ⟨_, rfl⟩
          simp only at ST
          rw [← es] at ST l3 l4 l5 l6 sbk
          obtain ⟨s0, s1, s2, s3, s4, s5⟩ := s
          obtain ⟨b0, b1', b2', b3', b4', b5'⟩ := sbk
          simp only at l3 l4 l5 l6 b0 b1' b2' b3' b4' b5'
          unfold scs at ST
          simp only at ST
          subst l3 l4
          obtain ⟨G, eG⟩ : ∃ G : Int, G = (wnt fs k : Int) := ⟨_, rfl⟩
          obtain ⟨P, eP⟩ : ∃ P : Int, P = (pln t L : Int) := ⟨_, rfl⟩
          rw [← eG] at h1 l5 l6
          rw [← eP] at h2 l6
          have kb100 : (k : Int) ≤ 100 := by have := b2; omega
          have wg := WLE.out k
          have gb2 : 0 ≤ G ∧ G ≤ 200 := by omega
          have RW := hid (And.intro h1 h2)
          have TX := hid (KA.row wlt r0'.out)
          have KAH := hid KA
          have HD := hid hdf
          have DW : Hid (w.heap.size ≤ D) := by have h1 := K6.out.size; show w.heap.size ≤ D; omega
          have SS := hid ST
          have tn : TN = t.length := ETN.out
          have wgs : wnt fs k = wnt fs k := rfl
          clear h1 h2 h3 hwk hdf hdue nD FIN PK CB1 CB2 R6 K6 h9 ST l1 l2 es LI KA hall SBK LE wgs
          rw [← eG]
          clear eG eP wg
          go_wp2_with fail
          refine SS.out.mono ?_
          rintro e A2 ⟨rfl, x2⟩
          obtain ⟨A3, eA3⟩ : ∃ A3, A3 = A2.alloc (.cells #[.int .i64 (k : Int), .int .i64 s1, .int .i64 0, .int .i64 s3, .int .i64 s4, .int .i64 s5] 51) := ⟨_, rfl⟩
          have X3 : Ext A A3 := by rw [eA3]; exact x2.alloc _
          have cg : A3.cell? ⟨wr.heap.size, 0, none⟩ = some (.int .i64 G) := by rw [cell_of_row _ _ 0 _ _ _ (X3.row RW.out.1)]; rfl
          have cp : A3.cell? ⟨wr.heap.size + 1, 0, none⟩ = some (.int .i64 P) := by rw [cell_of_row _ _ 0 _ _ _ (X3.row RW.out.2)]; rfl
          have ct : A3.cell? ⟨w.heap.size, 0, none⟩ = some (.slice bo TN bcap) := by rw [cell_of_row _ _ 0 _ _ _ (X3.row TX.out), tn]; rfl
          have HD3 := hid (X3.row HD.out)
          have KA3 := hid (KAH.out.trans (Kept.of_ext X3))
          rw [eA3] at cg cp ct
          have EA3 := hid eA3
          have w1 : IntKind.i64.wrap ((k : Int) - s1) = (k : Int) - s1 := IntWalk.i64_in _ (by omega)
          have w2 : IntKind.i64.wrap ((k : Int) - s1 + s3) = (k : Int) - s1 + s3 := IntWalk.i64_in _ (by omega)
          have w3 : IntKind.i64.wrap (G - s5) = G - s5 := IntWalk.i64_in _ (by omega)
          have w4 : IntKind.i64.wrap G = G := IntWalk.i64_in _ (by omega)
          have q1 : (G == (k : Int) - s1 + s3) = true := by simpa using l5
          clear SS x2 X3 RW TX KAH HD eA3
          by_cases ht : 0 < TN
          · rw [if_pos (by omega)] at l6
            subst l6
            have ht' : (0 : Int) < (TN : Int) := by omega
            clear tn ht l5
            go_wp2_with fail
            rw [← EA3.out]
            refine (AW.out _).mono ?_
            rintro e A7 ⟨rfl, x7⟩
            have HD7 := hid (x7.row HD3.out)
            have KA7 := hid (KA3.out.trans (Kept.of_ext x7))
            clear x7 HD3 KA3 cg cp ct
            go_wp2_with fail
            refine ⟨by simp, .inl ⟨_, _, rfl, run_takeDeferred HD7.out, ?_⟩⟩
            refine ⟨.bool true, by simp [results, Try.f6, go_sem], rfl, ?_⟩
            have nd : ¬ D < w.heap.size := by have : w.heap.size ≤ D := DW.out; omega
            have KW := (Kept.of_ext (K := fun q => q < w.heap.size) XX.out).trans (KA7.out.mono (fun q hq => Nat.lt_of_lt_of_le hq XX.out.size))
            exact (KW.trans (kept_put (K := fun q => q < w.heap.size) _ (L := D) nd _)).below (Nat.le_refl _) (fun i hi => hi)
          · rw [if_neg (by omega)] at l6
            have l7 : P = G := by omega
            subst l7
            have ht' : TN = 0 := by omega
            subst ht'
            clear tn ht l5 l6
            go_wp2_with fail
            rw [← EA3.out]
            refine (AW.out _).mono ?_
            rintro e A7 ⟨rfl, x7⟩
            have HD7 := hid (x7.row HD3.out)
            have KA7 := hid (KA3.out.trans (Kept.of_ext x7))
            clear x7 HD3 KA3 cg cp ct
            go_wp2_with fail
            refine ⟨by simp, .inl ⟨_, _, rfl, run_takeDeferred HD7.out, ?_⟩⟩
            refine ⟨.bool true, by simp [results, Try.f6, go_sem], rfl, ?_⟩
            have nd : ¬ D < w.heap.size := by have : w.heap.size ≤ D := DW.out; omega
            have KW := (Kept.of_ext (K := fun q => q < w.heap.size) XX.out).trans (KA7.out.mono (fun q hq => Nat.lt_of_lt_of_le hq XX.out.size))
            exact (KW.trans (kept_put (K := fun q => q < w.heap.size) _ (L := D) nd _)).below (Nat.le_refl _) (fun i hi => hi)
end Go.Proofs.Ytkhdfcjdbhhikaa.simnetFates
