/-
  Walks of parseBody and Parse.
-/
import Derived.Test.YtlnjkjpllmfcaaaWireBytes
import Derived.Laws.ResultCell
namespace Go.Proofs.Ytlnjkjpllmfcaaa
set_option linter.unusedVariables false
set_option maxRecDepth 100000
open Go.RowKit Go.Lib

theorem results_packet {fn : Func} {p u : Tmp} (h : fn.results = #[.cell p 29, .tmp u]) (tmps : Array Value) (w : World) (g : Nat) (cs : Array Value)
    (hp : tmps.getD p undef = .pointer (some ⟨g, 0, none⟩)) (hg : w.heap[g]? = some (.cells cs 29 (0, 0))) (hi : (Try.prog.info? 29).map (·.size) = some cs.size) :
    (results fn tmps).run Try.prog w = .ok (.tuple #[.agg cs, tmps.getD u undef]) w := by
  rw [results_cell_tmp h, hp]
  simp only [asAddr, Sem.run_pure, Result.andThen_ok, run_loadVar_row (P := Try.prog) w g 29 29 cs (0, 0) _ hg Try.underlying29 rfl hi]

/-- the cells of a packet that has a Kind alone -/
abbrev krow (x : Int) : Array Value := #[.int .i64 x, .int .i64 0, .int .i64 0, .int .u32 0, .int .i64 0, .int .i64 0, .int .i64 0, .int .i64 0, .int .i64 0, .int .u64 0, .slice none 0 0, .slice none 0 0, .slice none 0 0]
theorem pat_kind {K : Nat → Prop} {w : World} {g : Nat} {x : Int} (h : w.heap[g]? = some (.cells (krow x) 29 (0, 0))) : PAt K w g (setn pnone 0 x) :=
  ⟨_, _, _, h, RowK.nil _ _ _, RowK.nil _ _ _, RowK.nil _ _ _⟩

theorem gotc_len {c : Nat} (hc : c ∈ codes) {p : Pk} (x : List UInt8 × Bool) (h : p.2.2.1.length ≤ 256) : (gotc c p x).1.2.2.1.length ≤ 256 := by
  rcases codes_cases hc with rfl | rfl | rfl | rfl | rfl | rfl | rfl | rfl | rfl | rfl | rfl | rfl
  case inr.inr.inr.inr.inr.inr.inr.inr.inr.inr.inl =>
    show (runs pairOf (took 1 x).1 (took 1 x).2).1.length ≤ 256
    rw [runs_length]
    have := took_lt 1 x
    omega
  all_goals exact h

/-- an answer of parseBody and Parse: the packet, its lists in new blocks, and the error -/
def Told (w w' : World) (e : Ending) (r : Int × Pk) : Prop := ∃ ra rg da, e = .returned (.tuple #[.agg (prow r.2 ra rg da), .int .i64 r.1]) ∧ PL (fun i => w.heap.size ≤ i) w' r.2 ra rg da ∧ Ext w w'

theorem told_zero {w w' : World} {g : Nat} {old : Array Value} {x : Int} (hx : Ext w w') (hg : w.heap.size ≤ g) (h : w'.heap[g]? = some (.cells old 29 (0, 0))) :
    (w'.setRow g zrow).heap[g]? = some (.cells zrow 29 (0, 0)) ∧ Told w (w'.setRow g zrow) (.returned (.tuple #[.agg zrow, .int .i64 x])) (x, pnone) :=
  ⟨setRow_heap _ _ _ _ _ _ h, _, _, _, rfl, ⟨RowK.nil _ _ _, RowK.nil _ _ _, RowK.nil _ _ _⟩, hx.setRow hg _⟩

set_option maxHeartbeats 8000000 in
theorem parseBody_none (w : World) (b : Nat) (l : List UInt8) (hr : Row w b l) (hl : l.length ≤ 1000) (hk : kfields (l.getD 0 0).toNat = []) :
    Calls Try.prog 31 #[.slice (some ⟨b, 0, none⟩) l.length l.length] w fun e w' => Told w w' e (pbody l) := by
  have PB : Hid (pbody l = (22, pnone)) := by show _ = _; unfold pbody; rw [if_pos hk]
  obtain ⟨w1, e1⟩ : ∃ w1, w1 = (w.alloc (.cells zrow 29)).alloc (.cells #[.slice (some ⟨b, 0, none⟩) l.length l.length, .bool false] 84) := ⟨_, rfl⟩
  have X1 : Ext w w1 := by rw [e1]; exact ((Ext.refl w).alloc _).alloc _
  have s1 : w1.heap.size = w.heap.size + 1 + 1 := by rw [e1]; simp
  have bl := hr.lt
  have g0 : w1.heap[w.heap.size]? = some (.cells zrow 29 (0, 0)) := by rw [e1]; exact heap_alloc2_old w _ _
  have g1 : w1.heap[w.heap.size + 1]? = some (.cells #[.slice (some ⟨b, 0, none⟩) l.length l.length, .bool false] 84 (0, 0)) := by rw [e1]; exact heap_alloc2_new w _ _
  have R1 : Rd (fun i => i < w.heap.size + 1) w1 (w.heap.size + 1) b l false := by
    refine ⟨_, _, g1, Nat.le_refl _, by unfold maxLen; omega, fun _ => ⟨0, rfl, fun j hj => ?_⟩, by show b < w.heap.size + 1; omega, Nat.lt_irrefl _, fun i hi => ?_⟩
    · rw [Nat.zero_add]; exact (hr.ext X1).cell j hj
    · have : i < w.heap.size + 1 := hi
      omega
  have C1 := hid (octetR_any _ w1 (w.heap.size + 1) b l false R1)
  have T1 : Hid ((took 1 (l, false)).1 = (l.getD 0 0).toNat) := by
    show _ = _
    by_cases h1 : 1 ≤ l.length
    · rw [took_ok 1 l false h1]; exact head_ofle l h1
    · have : l = [] := List.eq_nil_of_length_eq_zero (by omega)
      subst this
      rfl
  rw [T1.out] at C1
  have KN : Hid (¬ (1 ≤ ((l.getD 0 0).toNat : Int) ∧ ((l.getD 0 0).toNat : Int) ≤ 7)) := by
    show ¬ _
    rw [kfields_none] at hk
    omega
  have E1 := hid e1
  have G0 := hid g0
  have XX := hid X1
  have br := byte_room (l.getD 0 0)
  generalize took 1 (l, false) = T at *
  generalize (l.getD 0 0).toNat = x at *
  clear e1 R1 g0 g1 hr X1 hk T1
  go_enter Try.func31, Try.ntmps31
  go_wp2_with (rw [← E1.out])
  refine C1.out.mono ?_
  rintro e w2 ⟨rfl, _, k2⟩
  have g2 := k2.row (show w.heap.size < w.heap.size + 1 by omega) G0.out
  obtain ⟨w3, e3⟩ : ∃ w3, w3 = w2.alloc (.cells (krow (x : Int)) 29) := ⟨_, rfl⟩
  have SN : Hid ((w2.alloc (.cells zrow 29)).setRow w2.heap.size (krow (x : Int)) = w3) := by rw [e3]; exact setRow_new w2 _ _ _ _
  have GZ : Hid ((w2.alloc (.cells zrow 29)).heap[w2.heap.size]? = some (.cells zrow 29 (0, 0))) := heap_alloc_new w2 _
  have X3 : Ext w2 w3 := by rw [e3]; exact (Ext.refl w2).alloc _
  have g3 : w3.heap[w2.heap.size]? = some (.cells (krow (x : Int)) 29 (0, 0)) := by rw [e3]; exact heap_alloc_new w2 _
  have c3 : w3.cell? ⟨w2.heap.size, 0, none⟩ = some (.int .i64 (x : Int)) := by rw [cell_of_row _ _ _ _ _ _ g3]; rfl
  have GR := X3.row g2
  have XW : Ext w w3 := (Below.trans XX.out (k2.below (by omega) (fun i hi => by show i < w.heap.size + 1; omega))).trans (Below.mono X3 (by have := k2.size; omega))
  have TZ := hid (told_zero (x := 22) XW (Nat.le_refl _) GR)
  have HGR := hid GR
  have ONZ : Hid (zrow.all (·.oneCell') = true) := by simp [Value.oneCell', Hid]
  have ONK : Hid ((krow (x : Int)).all (·.oneCell') = true) := by simp [Value.oneCell', Hid]
  clear k2 g2 e3 X3 g3 GR XW C1
  go_wp2_with (refine wpList_store_row rfl 29 _ _ rfl w2.heap.size (krow (x : Int)) rfl rfl 29 zrow GZ.out cells_packet rfl ONK.out ?_; rw [SN.out])
  refine (fieldsOf_none w3 (x : Int) KN.out).mono ?_
  rintro e w4 ⟨rfl, rfl⟩
  go_wp2_with (refine wpList_store_row rfl 29 _ _ rfl w.heap.size zrow rfl rfl 29 zrow HGR.out cells_packet rfl ONZ.out ?_)
  (try simp only [Exit.inBlock, Exit.then])
  refine bodyPost_ret (results_packet Try.results31 _ _ w.heap.size zrow rfl TZ.1 cells_packet) rfl ?_
  rw [PB.out]
  exact TZ.2

theorem pars_cons {cs : List Nat} {c : Nat} {p : Pk} {l : List UInt8} (k : Nat) (h : k < cs.length) (hc : cs.getD k 0 = c) : pars (cs.drop k) p l = match get c p l with | none => (20, pnone) | some (q, t) => if fits c q then pars (cs.drop (k + 1)) q t else (10, pnone) := by
  rw [drop_getN cs k h, hc]
  rfl

set_option maxHeartbeats 16000000 in
theorem parseBody_kind (w : World) (b : Nat) (l : List UInt8) (hr : Row w b l) (hl : l.length ≤ 1000) (hk : kfields (l.getD 0 0).toNat ≠ []) :
    Calls Try.prog 31 #[.slice (some ⟨b, 0, none⟩) l.length l.length] w fun e w' => Told w w' e (pbody l) := by
  have PB : pbody l = pars (kfields (l.getD 0 0).toNat) (setn pnone 0 ((l.getD 0 0).toNat : Int)) (l.drop 1) := by unfold pbody; rw [if_neg hk]
  obtain ⟨w1, e1⟩ : ∃ w1, w1 = (w.alloc (.cells zrow 29)).alloc (.cells #[.slice (some ⟨b, 0, none⟩) l.length l.length, .bool false] 84) := ⟨_, rfl⟩
  have X1 : Ext w w1 := by rw [e1]; exact ((Ext.refl w).alloc _).alloc _
  have s1 : w1.heap.size = w.heap.size + 1 + 1 := by rw [e1]; simp
  have bl := hr.lt
  have g0 : w1.heap[w.heap.size]? = some (.cells zrow 29 (0, 0)) := by rw [e1]; exact heap_alloc2_old w _ _
  have g1 : w1.heap[w.heap.size + 1]? = some (.cells #[.slice (some ⟨b, 0, none⟩) l.length l.length, .bool false] 84 (0, 0)) := by rw [e1]; exact heap_alloc2_new w _ _
  have R1 : Rd (fun i => i < w.heap.size + 1) w1 (w.heap.size + 1) b l false := by
    refine ⟨_, _, g1, Nat.le_refl _, by unfold maxLen; omega, fun _ => ⟨0, rfl, fun j hj => ?_⟩, by show b < w.heap.size + 1; omega, Nat.lt_irrefl _, fun i hi => ?_⟩
    · rw [Nat.zero_add]; exact (hr.ext X1).cell j hj
    · have : i < w.heap.size + 1 := hi
      omega
  have C1 := hid (octetR_any _ w1 (w.heap.size + 1) b l false R1)
  have T1 : Hid ((took 1 (l, false)).1 = (l.getD 0 0).toNat) := by
    show _ = _
    by_cases h1 : 1 ≤ l.length
    · rw [took_ok 1 l false h1]; exact head_ofle l h1
    · have : l = [] := List.eq_nil_of_length_eq_zero (by omega)
      subst this
      rfl
  rw [T1.out] at C1
  have KY : 1 ≤ ((l.getD 0 0).toNat : Int) ∧ ((l.getD 0 0).toNat : Int) ≤ 7 := by
    rw [Ne, kfields_none] at hk
    omega
  have l1 : 1 ≤ l.length := by
    cases l with
    | nil => exact absurd rfl hk
    | cons _ _ => simp
  have T2 : (took 1 (l, false)).2 = (l.drop 1, false) := by rw [took_ok 1 l false l1]
  rw [T2] at C1
  have E1 := hid e1
  have G0 := hid g0
  have XX := hid X1
  have KD := hid KY
  have br := byte_room (l.getD 0 0)
  have C4 := hid (fun w => fieldsOf_any w _ KY)
  rw [Int.toNat_natCast] at C4
  obtain ⟨RR, eRR⟩ : ∃ RR, RR = pbody l := ⟨_, rfl⟩
  rw [← eRR] at PB ⊢
  obtain ⟨cs, ecs⟩ : ∃ cs, cs = kfields (l.getD 0 0).toNat := ⟨_, rfl⟩
  rw [← ecs] at PB C4
  have cc : ∀ c ∈ cs, c ∈ codes := by rw [ecs]; exact kfields_codes _
  have cl : 0 < cs.length := by
    rw [ecs, List.length_pos_iff]
    exact hk
  have cl6 : cs.length ≤ 6 := by rw [ecs]; unfold kfields; split <;> decide
  have PBH := hid PB
  generalize (l.getD 0 0).toNat = x at *
  generalize l.drop 1 = l0 at *
  clear e1 R1 g0 g1 hr X1 hk T1 T2 ecs eRR PB KY
  go_enter Try.func31, Try.ntmps31
  go_wp2_with (rw [← E1.out])
  refine C1.out.mono ?_
  rintro e w2 ⟨rfl, r2, k2⟩
  have g2 := k2.row (show w.heap.size < w.heap.size + 1 by omega) G0.out
  have sz2 := k2.size
  obtain ⟨w3, e3⟩ : ∃ w3, w3 = w2.alloc (.cells (krow (x : Int)) 29) := ⟨_, rfl⟩
  have SN : Hid ((w2.alloc (.cells zrow 29)).setRow w2.heap.size (krow (x : Int)) = w3) := by rw [e3]; exact setRow_new w2 _ _ _ _
  have GZ : Hid ((w2.alloc (.cells zrow 29)).heap[w2.heap.size]? = some (.cells zrow 29 (0, 0))) := heap_alloc_new w2 _
  have X3 : Ext w2 w3 := by rw [e3]; exact (Ext.refl w2).alloc _
  have s3 : w3.heap.size = w2.heap.size + 1 := by rw [e3]; simp
  have g3 : w3.heap[w2.heap.size]? = some (.cells (krow (x : Int)) 29 (0, 0)) := by rw [e3]; exact heap_alloc_new w2 _
  have c3 : w3.cell? ⟨w2.heap.size, 0, none⟩ = some (.int .i64 (x : Int)) := by rw [cell_of_row _ _ _ _ _ _ g3]; rfl
  have ONZ : Hid (zrow.all (·.oneCell') = true) := by simp [Value.oneCell', Hid]
  have ONK : Hid ((krow (x : Int)).all (·.oneCell') = true) := by simp [Value.oneCell', Hid]
  have HH := hid (And.intro g3 (And.intro X3 (And.intro g2 (And.intro r2 k2))))
  clear k2 g2 e3 X3 g3 C1 r2
  go_wp2_with (refine wpList_store_row rfl 29 _ _ rfl w2.heap.size (krow (x : Int)) rfl rfl 29 zrow GZ.out cells_packet rfl ONK.out ?_; rw [SN.out])
  refine (C4.out w3).mono ?_
  rintro e w5 ⟨v, rfl, F5, X5⟩
  clear c3 C4
  obtain ⟨K, eK⟩ : ∃ K : Nat → Prop, K = fun i => i < w.heap.size + 1 ∨ (w3.heap.size ≤ i ∧ i < w5.heap.size) := ⟨_, rfl⟩
  have hK1 : ∀ i, i < w.heap.size + 1 → K i := by rw [eK]; exact fun i hi => .inl hi
  have X25 : Ext w2 w5 := HH.2.1.trans X5
  have gl := HH.2.2.2.1.lt
  have sz5 := X5.size
  have hKs : ∀ i, K i → i < w5.heap.size := by
    intro i hi
    rw [eK] at hi
    rcases hi with hi | hi <;> omega
  have KG : ¬ K (w.heap.size + 1) := by rw [eK]; intro h; rcases h with h | h <;> omega
  have KP : ¬ K w2.heap.size := by rw [eK]; intro h; rcases h with h | h <;> omega
  have Rd5 : Rd K w5 (w.heap.size + 1) b l0 false := (HH.2.2.2.1.other (.of_ext X25) (by rw [X25.row (Array.getElem?_eq_getElem gl), Array.getElem?_eq_getElem gl])).more (fun i hi => hK1 i hi) KG hKs
  have P5 : PAt (fun _ => False) w5 w2.heap.size (setn pnone 0 (x : Int)) := pat_kind (X5.row HH.1)
  obtain ⟨fb, fs, rfl, kfb, rfb, af⟩ := F5
  have A5 : K fb ∧ w5.heap[fb]? = some (.cells (fcells fs).toArray 64 (0, 0)) ∧ AllFields K w5 cs fs :=
    ⟨by rw [eK]; exact .inr ⟨kfb, lt_of_row rfb⟩, rfb, af.mono (fun i hi h3 => by rw [eK]; exact .inr ⟨h3, hi⟩)⟩
  have G5 : w5.heap[w.heap.size]? = some (.cells zrow 29 (0, 0)) := X25.row HH.2.2.1
  have XW : Hid (Ext w w5) := (Below.trans XX.out (HH.2.2.2.2.below (by omega) (fun i hi => by show i < w.heap.size + 1; omega))).trans (Below.mono X25 (by omega))
  have HI := hid (And.intro Rd5 (And.intro P5 (And.intro A5 G5)))
  have KS : Hid (∀ i, i < w.heap.size → K i) := fun i hi => hK1 i (by omega)
  have KR : Hid (K w.heap.size) := hK1 _ (by omega)
  have i1 : ((cs.length : Int) == 0) = false := by rw [beq_eq_false_iff_ne]; omega
  have pne : w.heap.size + 1 ≠ w2.heap.size := by omega
  have prg : w2.heap.size ≠ w.heap.size := by omega
  have gsz : w.heap.size < w5.heap.size := by omega
  clear kfb rfb af X5 X25 Rd5 P5 A5 G5 hK1 hKs eK HH SN GZ
  generalize w2.heap.size = gp at *
  go_wp2_with fail
  go_loopw [23] (fun i wr => ∃ (k : Nat) (L N : Nat → Prop) (q : Pk) (y : List UInt8), k ≤ cs.length ∧ i = .int .i64 k ∧ (∀ i, K i → L i) ∧ ¬ L gp ∧ Rd L wr (w.heap.size + 1) b y false ∧ PAt N wr gp q ∧ (∀ i, N i → L i) ∧ (∀ i, N i → w.heap.size < i) ∧ q.2.2.1.length ≤ 256 ∧ Kept K w5 wr ∧ RR = pars (cs.drop k) q y) (fun i _ => (cs.length - intOf i).toNat)
  case atStart => exact ⟨0, K, fun _ => False, _, l0, by omega, rfl, fun _ h => h, KP, HI.1, HI.2.1, fun _ h => h.elim, fun _ h => h.elim, by simp [setn, pnone], Kept.refl _ _, PBH.out⟩
  case round =>
    obtain ⟨k, L, N, q, y, hk, rfl, hKL, hLp, hrd, hpat, hNL, hNg, hq6, hkept, hpars⟩ := hrel
    clear PBH
    have lg := hrd.parts.2.2 _ (hKL _ KR.out)
    have XR : Hid (Ext w wr) := Below.trans XW.out (hkept.below (Below.size XW.out) KS.out)
    have GR := hkept.row KR.out HI.2.2.2
    by_cases t : k < cs.length
    · have ha := HI.2.2.1.2.2.kept hkept
      have hrow := hkept.row HI.2.2.1.1 HI.2.2.1.2.1
      obtain ⟨vp, vg, vf, vd, fa, q1, q2, q3, q4⟩ := ha.at k t
      have hcc := cc _ (getD_memN cs k t)
      obtain ⟨c, ec⟩ : ∃ c, cs.getD k 0 = c := ⟨_, rfl⟩
      rw [ec] at fa hcc
      rw [pars_cons k t ec] at hpars
      have c1 : wr.cell? ⟨fb, k * 4, none⟩ = some vp := by rw [cell_of_row _ _ _ _ _ _ hrow, List.getElem?_toArray]; exact q1
      have c2 : wr.cell? ⟨fb, k * 4 + 1, none⟩ = some vg := by rw [cell_of_row _ _ _ _ _ _ hrow, List.getElem?_toArray]; exact q2
      have c3 : wr.cell? ⟨fb, k * 4 + 2, none⟩ = some vf := by rw [cell_of_row _ _ _ _ _ _ hrow, List.getElem?_toArray]; exact q3
      have c4 : wr.cell? ⟨fb, k * 4 + 3, none⟩ = some vd := by rw [cell_of_row _ _ _ _ _ _ hrow, List.getElem?_toArray]; exact q4
      have ON := hid fa.one
      obtain ⟨w6, e6⟩ : ∃ w6, w6 = wr.alloc (.cells #[vp, vg, vf, vd] 64) := ⟨_, rfl⟩
      have SN : Hid ((wr.alloc (.cells #[.nilFunc, .nilFunc, .nilFunc, .nilFunc] 64)).setRow wr.heap.size #[vp, vg, vf, vd] = w6) := by rw [e6]; exact setRow_new wr _ _ _ _
      have GZ : Hid ((wr.alloc (.cells #[.nilFunc, .nilFunc, .nilFunc, .nilFunc] 64)).heap[wr.heap.size]? = some (.cells #[.nilFunc, .nilFunc, .nilFunc, .nilFunc] 64 (0, 0))) := heap_alloc_new wr _
      have g6 : w6.heap[wr.heap.size]? = some (.cells #[vp, vg, vf, vd] 64 (0, 0)) := by rw [e6]; exact heap_alloc_new wr _
      have X6 : Ext wr w6 := by rw [e6]; exact (Ext.refl wr).alloc _
      have fg : w6.cell? ⟨wr.heap.size, 1, none⟩ = some vg := by rw [cell_of_row _ _ _ _ _ _ g6]; rfl
      have gsr := hpat.lt
      have grr := hrd.lt
      have rd6 : Rd (fun i => L i ∨ i = wr.heap.size) w6 (w.heap.size + 1) b y false := (hrd.other (.of_ext X6) (by rw [X6.row (Array.getElem?_eq_getElem grr), Array.getElem?_eq_getElem grr])).with wr.heap.size (lt_of_row g6) (by omega)
      have pat6 : PAt N w6 gp q := hpat.kept (.of_ext X6) (by rw [X6.row (Array.getElem?_eq_getElem gsr), Array.getElem?_eq_getElem gsr])
      have fa6 : FieldAt (fun i => L i ∨ i = wr.heap.size) w6 c vp vg vf vd := (fa.kept (.of_ext X6)).mono (fun i _ hi => .inl (hKL i hi))
      obtain ⟨f1, cap1, rfl, en1, C1⟩ := fa6.gets N gp (w.heap.size + 1) b q (y, false) pat6 (fun i hi => .inl (hNL i hi)) (fun h => h.elim hLp (by omega)) pne rd6
      have CG := hid C1
      unfold Entered at en1
      have GG := hid (gotc_get hcc q y)
      have GL := hid (gotc_len hcc (y, false) hq6)
      obtain ⟨Q, eQ⟩ : ∃ Q, Q = gotc c q (y, false) := ⟨_, rfl⟩
      rw [← eQ] at CG GG GL
      have t1 : (k : Int) < (cs.length : Int) := by omega
      have t2 : (0 : Int) ≤ (k : Int) := by omega
      have HJ := hid (And.intro fa6 (And.intro g6 (And.intro X6 (And.intro hkept (And.intro hKL hNg)))))
      have HP := hid hpars
      have fsz := lt_of_row g6
      have GRH := hid GR
      clear ha hrow fa fa6 g6 X6 C1 q1 q2 q3 q4 e6 hrd hpat rd6 pat6 eQ hkept hpars hNg hKL hLp hNL GR
      go_wp2_with (refine wpList_store_row rfl 64 _ _ rfl wr.heap.size #[vp, .func (.func f1) #[] cap1, vf, vd] rfl rfl 64 #[.nilFunc, .nilFunc, .nilFunc, .nilFunc] GZ.out cells_field rfl ON.out ?_; rw [SN.out])
      refine CG.out.mono ?_
      rintro e w7 ⟨rfl, L7, N7, hL7, hL7p, rd7, pat7, hN7, hN7g, k7⟩
      clear CG en1 c1 c2 c3 c4 fg
      obtain ⟨q7, y7, s7⟩ := Q
      obtain ⟨ao, cap, gr7, _, cm7, _⟩ := id rd7
      have cs7 : w7.cell? ⟨w.heap.size + 1, 1, none⟩ = some (.bool s7) := by rw [cell_of_row _ _ _ _ _ _ gr7]; rfl
      have kk7 : Kept K wr w7 := (Kept.of_ext HJ.2.2.1).trans (k7.mono (fun i hi => .inl (HJ.2.2.2.2.1 i hi)))
      have X7 : Hid (Ext w w7) := Below.trans XR.out (kk7.below (Below.size XR.out) KS.out)
      have GR7 := kk7.row KR.out GRH.out
      rcases GG.out with ⟨ge, gs⟩ | ⟨q', t', ge, gs⟩
      · have es : s7 = true := gs
        subst es
        have TZ := hid (told_zero (x := 20) X7.out (Nat.le_refl _) GR7)
        have HGR := hid GR7
        have PE : Hid (RR = (20, pnone)) := by have := HP.out; rw [ge] at this; exact this
        clear gr7 cm7 rd7 pat7 k7 kk7 GR7 GG HJ HP
        go_wp2_with (refine wpList_store_row rfl 29 _ _ rfl w.heap.size zrow rfl rfl 29 zrow HGR.out cells_packet rfl ONZ.out ?_)
        (try simp only [Exit.inBlock, Exit.then])
        refine bodyPost_ret (results_packet Try.results31 _ _ w.heap.size zrow rfl TZ.1 cells_packet) rfl ?_
        rw [PE.out]
        exact TZ.2
      · obtain ⟨rfl, rfl, rfl⟩ : q' = q7 ∧ t' = y7 ∧ s7 = false := by
          simp only [Prod.mk.injEq] at gs
          exact ⟨gs.1.symm, gs.2.1.symm, gs.2.2⟩
        have fa7 : FieldAt L7 w7 c vp (.func (.func f1) #[] cap1) vf vd := (HJ.1.kept k7).mono (fun i _ hi => hL7 i hi)
        have g7 := k7.row (.inr rfl) HJ.2.1
        obtain ⟨f2, cap2, ev, en2, C2⟩ := (fa7.fitted gp q' (pat7.mono (fun i _ hi => hN7 i hi)) (by have := GL.out; simp only at this; omega))
        subst ev
        have ff : w7.cell? ⟨wr.heap.size, 2, none⟩ = some (.func (.func f2) #[] cap2) := by rw [cell_of_row _ _ _ _ _ _ g7]; rfl
        have CF := hid C2
        unfold Entered at en2
        have PE : Hid (RR = if fits c q' = true then pars (cs.drop (k + 1)) q' t' else (10, pnone)) := by have := HP.out; rw [ge] at this; exact this
        have HS := hid (And.intro rd7 (And.intro pat7 (And.intro kk7 GR7)))
        have K57 : Hid (Kept K w5 w7) := HJ.2.2.2.1.trans kk7
        have NG : Hid (∀ i, N7 i → w.heap.size < i) := fun i h => (hN7g i h).elim (HJ.2.2.2.2.2 i) (fun h => by have := HJ.2.2.1.size; omega)
        have KL7 : Hid (∀ i, K i → L7 i) := fun i hi => hL7 i (.inl (HJ.2.2.2.2.1 i hi))
        clear gr7 cm7 rd7 pat7 k7 kk7 GR7 GG HP C2 fa7 g7 ge gs
        go_wp2_with fail
        refine CF.out.mono ?_
        rintro e w8 ⟨rfl, X8⟩
        clear CF en2 ff cs7
        have GR8 := X8.row HS.2.2.2
        have XW8 := X7.out.trans X8
        cases hB : fits c q' with
        | false =>
          have TZ := hid (told_zero (x := 10) XW8 (Nat.le_refl _) GR8)
          have HGR := hid GR8
          have PE2 : Hid (RR = (10, pnone)) := by have := PE.out; rw [hB] at this; exact this
          clear GR8 XW8 X8 hB PE HJ HS
          go_wp2_with (refine wpList_store_row rfl 29 _ _ rfl w.heap.size zrow rfl rfl 29 zrow HGR.out cells_packet rfl ONZ.out ?_)
          (try simp only [Exit.inBlock, Exit.then])
          refine bodyPost_ret (results_packet Try.results31 _ _ w.heap.size zrow rfl TZ.1 cells_packet) rfl ?_
          rw [PE2.out]
          exact TZ.2
        | true =>
          have PE2 : Hid (RR = pars (cs.drop (k + 1)) q' t') := by have := PE.out; rw [hB] at this; exact this
          have gl8 := HS.1.lt
          have gp8 := HS.2.1.lt
          have R8 : Hid (Rd L7 w8 (w.heap.size + 1) b t' false ∧ PAt N7 w8 gp q' ∧ Kept K w5 w8) :=
            ⟨HS.1.other (.of_ext X8) (by rw [X8.row (Array.getElem?_eq_getElem gl8), Array.getElem?_eq_getElem gl8]), HS.2.1.kept (.of_ext X8) (by rw [X8.row (Array.getElem?_eq_getElem gp8), Array.getElem?_eq_getElem gp8]), K57.out.trans (.of_ext X8)⟩
          clear GR8 XW8 X8 hB PE HJ HS
          go_wp2_with fail
          go_roundw
          case rel => exact ⟨k + 1, L7, N7, q', t', by omega, by go_num, KL7.out, hL7p, R8.1, R8.2.1, hN7, NG.out, GL.out, R8.2.2, PE2.out⟩
          case measure => simp [intOf]; omega
    · obtain rfl : k = cs.length := by omega
      rw [List.drop_length] at hpars
      obtain ⟨ao, cap, gr7, _, cm7, _⟩ := hrd
      have cr : wr.cell? ⟨w.heap.size + 1, 0, none⟩ = some (.slice ao y.length cap) := by rw [cell_of_row _ _ _ _ _ _ gr7]; rfl
      unfold maxLen at cm7
      have GRH := hid GR
      obtain ⟨ra, rg, da, hA, hpl⟩ := hpat
      have HA := hid hA
      have HPL := hid hpl
      have HN := hid hNg
      clear gr7 hkept GR hA hpl hKL hLp hNL hNg
      by_cases ty : y = []
      · have PE : Hid (RR = (0, q)) := by rw [hpars]; unfold pars; rw [if_pos ty]; rfl
        have y0 : (y.length : Int) = 0 := by rw [ty]; rfl
        have yn : ¬ (0 : Int) < (y.length : Int) := by omega
        have ONA := hid (prow_one HPL.out)
        have G9 : Hid ((wr.setRow w.heap.size (prow q ra rg da)).heap[w.heap.size]? = some (.cells (prow q ra rg da) 29 (0, 0))) := setRow_heap _ _ _ _ _ _ GRH.out
        have T9 : Hid (Told w (wr.setRow w.heap.size (prow q ra rg da)) (.returned (.tuple #[.agg (prow q ra rg da), .int .i64 0])) (0, q)) :=
          ⟨ra, rg, da, rfl, (HPL.out.kept ((Kept.refl N wr).setRow (fun h => Nat.lt_irrefl _ (HN.out _ h)) _)).mono (fun i _ h => Nat.le_of_lt (HN.out i h)), XR.out.setRow (Nat.le_refl _) _⟩
        clear hpars ty
        generalize y.length = yl at *
        go_wp2_with (first
          | refine wpList_load_row rfl 29 _ rfl gp rfl 29 (prow q ra rg da) (0, 0) _ HA.out Try.underlying29 rfl cells_packet ?_
          | refine wpList_store_row rfl 29 _ _ rfl w.heap.size (prow q ra rg da) rfl rfl 29 zrow GRH.out cells_packet rfl ONA.out ?_)
        (try simp only [Exit.inBlock, Exit.then])
        refine bodyPost_ret (results_packet Try.results31 _ _ w.heap.size (prow q ra rg da) rfl G9.out cells_packet) rfl ?_
        rw [PE.out]
        exact T9.out
      · have PE : Hid (RR = (10, pnone)) := by rw [hpars]; unfold pars; rw [if_neg ty]; rfl
        have yl : 0 < y.length := List.length_pos_iff.2 ty
        have yp : (0 : Int) < (y.length : Int) := by omega
        have TZ := hid (told_zero (x := 10) XR.out (Nat.le_refl _) GRH.out)
        clear hpars ty yl
        go_wp2_with (refine wpList_store_row rfl 29 _ _ rfl w.heap.size zrow rfl rfl 29 zrow GRH.out cells_packet rfl ONZ.out ?_)
        (try simp only [Exit.inBlock, Exit.then])
        refine bodyPost_ret (results_packet Try.results31 _ _ w.heap.size zrow rfl TZ.1 cells_packet) rfl ?_
        rw [PE.out]
        exact TZ.2
end Go.Proofs.Ytlnjkjpllmfcaaa
