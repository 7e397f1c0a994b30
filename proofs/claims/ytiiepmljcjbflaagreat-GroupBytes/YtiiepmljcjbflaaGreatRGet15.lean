/- GetEvent of the document's package (layer 15), whatever the bytes (by genrgett15.py). -/
import Derived.Test.YtiiepmljcjbflaaGreatGTellR
import Derived.Test.YtiiepmljcjbflaaGreatGByG
import Derived.Test.YtiiepmljcjbflaaGreatRRight15
import Derived.Test.YtiiepmljcjbflaaGreatPGXRget
import Derived.Deep.RegionLaw
import Derived.Deep.DeepCutAuto
namespace Go.Proofs.YtiiepmljcjbflaaGreat
open Go.RowKit
variable {w w' : World}

theorem revA_size (x : Ev) : (Tryz.prog.info? REv).map (·.size) = some (evA x).toList.length := by
  show _ = some 9
  kernel_rfl
/-- An event of the document's stored whole into a box. -/
theorem store_rev {ops : Array Oper} {rest : List Oper} {o : Oper} {t : Act} {Q : Exit → Act → World → Prop} {g : Nat} {cur : Array Value} (x : Ev) (hgd : o.guard = none) (p y : Operand) (ho : o.op = .store REv p y) (hx : t.eval p = .pointer (some ⟨g, 0, none⟩)) (hy : t.eval y = .agg (evA x))
    (hg : Blk w g cur REv) (hfit : cur.size = 9) (h : ∀ w', Blk w' g (evA x) REv → Chg [g] w w' → wpList Tryz.prog ops Q rest (t.put o.dst undef) w') : wpList Tryz.prog ops Q (o :: rest) t w := by
  have hy' : t.eval y = .agg (evA x).toList.toArray := hy
  refine store_wide hgd REv p y ho (evA x).toList (revA_size x) g 0 hx hy' REv cur hg (by show 0 + 9 ≤ _; omega) (evA_one x) ?_
  have e2 : (cur.toList.take 0 ++ (evA x).toList ++ cur.toList.drop (0 + (evA x).toList.length)) = (evA x).toList := by rw [List.drop_of_length_le (by show cur.toList.length ≤ 0 + 9; simp; omega)]; simp
  rw [e2]
  refine h _ (setRow_heap _ _ _ _ _ _ hg) ⟨rfl, rfl, rfl, by simp [World.setRow], fun k _ hn => setRow_other w g k _ (by intro e; exact hn (by simp [e]))⟩
theorem ret_rev2 {fn : Func} {p u : Tmp} (h : fn.results = #[.cell p REv, .tmp u]) (tmps : Array Value) (w : World) (g : Nat) (x : Ev)
    (hp : tmps.getD p undef = .pointer (some ⟨g, 0, none⟩)) (hg : Blk w g (evA x) REv) :
    (results fn tmps).run Tryz.prog w = .ok (.tuple #[.agg (evA x), tmps.getD u undef]) w := by
  rw [results_cell_tmp h, hp]
  have hl := run_loadVar_row (P := Tryz.prog) w g REv REv _ (0, 0) _ hg Tryz.underlying23 rfl (by kernel_rfl)
  simp only [asAddr, Sem.run_pure, Result.andThen_ok]
  rw [hl]
  rfl
theorem bytes_beqT (a b : ByteArray) : (a == b) = true ↔ a = b := by
  obtain ⟨⟨x⟩⟩ := a
  obtain ⟨⟨y⟩⟩ := b
  show ((⟨x⟩ : Array UInt8) == ⟨y⟩) = true ↔ _
  simp
theorem strOfNums_byteT (l : List Nat) (h : ∀ x ∈ l, x < 256) : sbytes (bstr l) = l := sbytes_bstr l h
theorem bstr_injT {l m : List Nat} (hl : ∀ x ∈ l, x < 256) (hm : ∀ x ∈ m, x < 256) : bstr l = bstr m ↔ l = m := ⟨fun e => by rw [← sbytes_bstr l hl, ← sbytes_bstr m hm, e], fun e => by rw [e]⟩
theorem bstr_beqT1 {l m : List Nat} (hl : ∀ x ∈ l, x < 256) (hm : ∀ x ∈ m, x < 256) (q : Bool) (h : q = true ↔ l = m) : (bstr l == bstr m) = q := by
  rw [Bool.eq_iff_iff, bytes_beqT, h]
  exact bstr_injT hl hm
theorem bstr_beqT {l m : List Nat} (hl : ∀ x ∈ l, x < 256) (hm : ∀ x ∈ m, x < 256) (q : Bool) (h : q = true ↔ l = m) : ((bstr l).toList == (bstr m).toList) = q := by
  rw [← beq_toListBytes]
  exact bstr_beqT1 hl hm q h
theorem tell_lt (x : Ev) : ∀ z ∈ tellE x, z < 256 := by
  have hb : ∀ z ∈ bodyT x, z < 256 := fun z hz => by
    rw [bodyT_pre] at hz
    rcases List.mem_append.1 hz with h | h
    · exact preT_lt x 6 z h
    · rcases List.mem_append.1 h with h | h
      · exact spellN_lt _ _ z h
      · exact sbytes_lt _ z h
  intro z hz
  unfold tellE frameBs toldN at hz
  rcases List.mem_append.1 hz with h | h
  · rcases List.mem_append.1 h with h | h
    · rcases List.mem_append.1 h with h | h
      · exact spellN_lt _ _ z h
      · exact spellN_lt _ _ z h
    · exact hb z h
  · exact spellN_lt _ _ z h
set_option maxRecDepth 40000 in
set_option maxHeartbeats 4000000 in
theorem rgetT_any (ad : Option Addr) (len cap : Nat) (l : List Nat) (w : World) (hp : Part.ok w ⟨ad, len, cap, l⟩) (hlc : len ≤ cap) (hm : len ≤ 1000000000000000) : Calls Tryz.prog 11 #[.slice ad len cap] w (GetQ l w) := by
  have hlen : l.length = len := hp.1
  obtain ⟨W0, hW0⟩ : ∃ W0, w.alloc (.cells #[.int .i64 0, .string ⟨#[]⟩, .int .i64 0, .int .i64 0, .int .i64 0, .int .i64 0, .int .i64 0, .int .i64 0, .bool false] REv) = W0 := ⟨_, rfl⟩
  have b0 : Below w.heap.size w W0 := by rw [← hW0]; exact (Below.refl _ _).alloc (Nat.le_refl _) _
  have z0 : Blk W0 w.heap.size #[.int .i64 0, .string ⟨#[]⟩, .int .i64 0, .int .i64 0, .int .i64 0, .int .i64 0, .int .i64 0, .int .i64 0, .bool false] REv := by rw [← hW0]; exact heap_alloc_new w _
  have HU := hid (refUnframe_any ad len cap l 0 W0 (hp.later b0) hlc hm (by omega))
  have hul := unframe_len l
  have HNo : Hid (¬ accD l → GotT l evZ 22) := gotD_no
  have HYs : Hid (accD l → GotT l (dE (unframeN l 0).2.1) 0) := gotD
  unfold accD at HNo HYs
  obtain ⟨uk, ub, ut, ue, hu⟩ : ∃ uk ub ut ue, unframeN l 0 = (uk, ub, ut, ue) := ⟨_, _, _, _, rfl⟩
  rw [hu] at HU HNo HYs hul
  dsimp only at HU HNo HYs hul
  obtain ⟨m1, hm1⟩ : ∃ m1, ub.length = m1 := ⟨_, rfl⟩
  rw [hm1] at HNo HYs
  have HM1 := hid hm1
  have hmb : m1 ≤ 1000000000000000 := by omega
  have HB0 := hid b0
  have HZ := hid z0
  have HP := hid hp
  have hfin : Hid (∀ W1 W9, Below W0.heap.size W0 W1 → Chg [w.heap.size] W1 W9 → Below w.heap.size w W9) := fun W1 W9 h1 h9 => (HB0.out.trans (h1.mono HB0.out.size)).trans (h9.below (fun g hg => by simp at hg; omega) (by have := h1.size; have := HB0.out.size; omega))
  clear hp b0 z0 hu hlen hul hm1
  by_cases he : ue = 0
  case neg =>
    have heb : (ue == 0) = false := by simpa using he
    have HG : Hid (GotT l evZ 22) := HNo.out (fun h => he h.1)
    clear HNo HYs
    go_enter Tryz.func11, Tryz.ntmps11
    go_wp2_with (first
      | (go_at_call 36; (with_reducible_and_instances (refine HU.out.mono ?_)); rintro r w1 ⟨v1, rfl, ho1, hb1⟩; obtain ⟨a1, c1, hv1, hq1, hc1, hc2⟩ := ho1.slice m1 HM1.out; subst hv1; have HB1 := hid hb1; have HZ1 := hid (HZ.out.later hb1); have lz1 := (HZ.out.later hb1).lt; clear ho1 hb1 hq1)
      | (refine store_rev evZ rfl (.tmp 2) (.tmp 27) rfl rfl rfl HZ1.out rfl ?_; intro W9 hx9 hc9))
    exact bodyPost_ret (ret_rev2 Tryz.results11 _ _ w.heap.size evZ rfl hx9) rfl ⟨evZ, 22, rfl, HG.out, hfin.out w1 W9 HB1.out hc9⟩
  subst he
  by_cases hk : uk = 32
  case neg =>
    have hkb : (uk == 32) = false := by simpa using hk
    have HG : Hid (GotT l evZ 22) := HNo.out (fun h => hk h.2.1)
    clear HNo HYs
    go_enter Tryz.func11, Tryz.ntmps11
    go_wp2_with (first
      | (go_at_call 36; (with_reducible_and_instances (refine HU.out.mono ?_)); rintro r w1 ⟨v1, rfl, ho1, hb1⟩; obtain ⟨a1, c1, hv1, hq1, hc1, hc2⟩ := ho1.slice m1 HM1.out; subst hv1; have HB1 := hid hb1; have HZ1 := hid (HZ.out.later hb1); have lz1 := (HZ.out.later hb1).lt; clear ho1 hb1 hq1)
      | (refine store_rev evZ rfl (.tmp 2) (.tmp 27) rfl rfl rfl HZ1.out rfl ?_; intro W9 hx9 hc9))
    exact bodyPost_ret (ret_rev2 Tryz.results11 _ _ w.heap.size evZ rfl hx9) rfl ⟨evZ, 22, rfl, HG.out, hfin.out w1 W9 HB1.out hc9⟩
  subst hk
  by_cases h34 : 40 ≤ m1
  case neg =>
    have hd34 : decide ((m1 : Int) < 40) = true := decide_eq_true (by omega)
    have HG : Hid (GotT l evZ 22) := HNo.out (fun h => h34 h.2.2.1)
    clear HNo HYs
    go_enter Tryz.func11, Tryz.ntmps11
    go_wp2_with (first
      | (go_at_call 36; (with_reducible_and_instances (refine HU.out.mono ?_)); rintro r w1 ⟨v1, rfl, ho1, hb1⟩; obtain ⟨a1, c1, hv1, hq1, hc1, hc2⟩ := ho1.slice m1 HM1.out; subst hv1; have HB1 := hid hb1; have HZ1 := hid (HZ.out.later hb1); have lz1 := (HZ.out.later hb1).lt; clear ho1 hb1 hq1)
      | (refine store_rev evZ rfl (.tmp 2) (.tmp 27) rfl rfl rfl HZ1.out rfl ?_; intro W9 hx9 hc9))
    exact bodyPost_ret (ret_rev2 Tryz.results11 _ _ w.heap.size evZ rfl hx9) rfl ⟨evZ, 22, rfl, HG.out, hfin.out w1 W9 HB1.out hc9⟩
  have hd34 : decide ((m1 : Int) < 40) = false := decide_eq_false (by omega)
  obtain ⟨y0, hy0⟩ : ∃ y0, ub.getD 0 0 = y0 := ⟨_, rfl⟩
  obtain ⟨y1, hy1⟩ : ∃ y1, ub.getD 1 0 = y1 := ⟨_, rfl⟩
  obtain ⟨yb, hyb⟩ : ∃ yb, ((y1 : Int) == 1) = yb := ⟨_, rfl⟩
  have hyb2 : (y1 == 1) = yb := by
    rw [← hyb]
    by_cases h : y1 = 1
    · subst h; rfl
    · have h1 : (y1 == 1) = false := by simpa using h
      have h2 : ((y1 : Int) == 1) = false := by simp; omega
      rw [h1, h2]
  obtain ⟨n2, g2, e2, hn2⟩ : ∃ a b c, getN ub 2 6 = (a, b, c) := ⟨_, _, _, rfl⟩
  obtain ⟨n8, g8, e8, hn8⟩ : ∃ a b c, getN ub 8 6 = (a, b, c) := ⟨_, _, _, rfl⟩
  obtain ⟨n14, g14, e14, hn14⟩ : ∃ a b c, getN ub 14 6 = (a, b, c) := ⟨_, _, _, rfl⟩
  obtain ⟨n20, g20, e20, hn20⟩ : ∃ a b c, getN ub 20 6 = (a, b, c) := ⟨_, _, _, rfl⟩
  obtain ⟨n26, g26, e26, hn26⟩ : ∃ a b c, getN ub 26 6 = (a, b, c) := ⟨_, _, _, rfl⟩
  obtain ⟨n32, g32, e32, hn32⟩ : ∃ a b c, getN ub 32 6 = (a, b, c) := ⟨_, _, _, rfl⟩
  obtain ⟨tx, tp, te, htx⟩ : ∃ a b c, getTextN ub 38 = (a, b, c) := ⟨_, _, _, rfl⟩
  have hD : dE ub = ⟨(y0 : Int), tx.data.toList, n2, n8, n14, n20, n26, n32, yb⟩ := by unfold dE; rw [hy0, hy1, hyb2, htx, hn2, hn8, hn14, hn20, hn26, hn32]
  have hnm : nmS tx.data.toList = tx := rfl
  rw [hD, htx] at HNo HYs
  dsimp only at HNo HYs
  have HRG : Hid (∀ W a1 c1, Part.ok W ⟨a1, m1, c1, ub⟩ → (Calls Tryz.prog 37 #[.slice a1 m1 c1, .int .i64 2, .int .i64 6] W fun e w' => e = .returned (.tuple #[.int .i64 n2, .int .i64 g2, .int .i64 e2]) ∧ w' = W) ∧ (Calls Tryz.prog 37 #[.slice a1 m1 c1, .int .i64 8, .int .i64 6] W fun e w' => e = .returned (.tuple #[.int .i64 n8, .int .i64 g8, .int .i64 e8]) ∧ w' = W) ∧ (Calls Tryz.prog 37 #[.slice a1 m1 c1, .int .i64 14, .int .i64 6] W fun e w' => e = .returned (.tuple #[.int .i64 n14, .int .i64 g14, .int .i64 e14]) ∧ w' = W) ∧ (Calls Tryz.prog 37 #[.slice a1 m1 c1, .int .i64 20, .int .i64 6] W fun e w' => e = .returned (.tuple #[.int .i64 n20, .int .i64 g20, .int .i64 e20]) ∧ w' = W) ∧ (Calls Tryz.prog 37 #[.slice a1 m1 c1, .int .i64 26, .int .i64 6] W fun e w' => e = .returned (.tuple #[.int .i64 n26, .int .i64 g26, .int .i64 e26]) ∧ w' = W) ∧ (Calls Tryz.prog 37 #[.slice a1 m1 c1, .int .i64 32, .int .i64 6] W fun e w' => e = .returned (.tuple #[.int .i64 n32, .int .i64 g32, .int .i64 e32]) ∧ w' = W)) := fun W a1 c1 hq => by
    refine ⟨?_, ?_, ?_, ?_, ?_, ?_⟩
    · have h := refGet_any a1 m1 c1 ub 2 6 W hq hmb (by omega)
      rw [hn2] at h
      exact h
    · have h := refGet_any a1 m1 c1 ub 8 6 W hq hmb (by omega)
      rw [hn8] at h
      exact h
    · have h := refGet_any a1 m1 c1 ub 14 6 W hq hmb (by omega)
      rw [hn14] at h
      exact h
    · have h := refGet_any a1 m1 c1 ub 20 6 W hq hmb (by omega)
      rw [hn20] at h
      exact h
    · have h := refGet_any a1 m1 c1 ub 26 6 W hq hmb (by omega)
      rw [hn26] at h
      exact h
    · have h := refGet_any a1 m1 c1 ub 32 6 W hq hmb (by omega)
      rw [hn32] at h
      exact h
  have HRT : Hid (∀ W a1 c1, Part.ok W ⟨a1, m1, c1, ub⟩ → m1 ≤ c1 → Calls Tryz.prog 38 #[.slice a1 m1 c1, .int .i64 38] W fun e w' => e = .returned (.tuple #[.string tx, .int .i64 tp, .int .i64 te]) ∧ w' = W) := fun W a1 c1 hq hc => by
    have h := refGetText_any a1 m1 c1 ub 38 W hq hc hmb (by omega)
    rw [htx] at h
    exact h
  have HRi := hid (fun W => rright_any ⟨(y0 : Int), tx.data.toList, n2, n8, n14, n20, n26, n32, yb⟩ W)
  have HWr := hid (fun (h : Ev.may ⟨(y0 : Int), tx.data.toList, n2, n8, n14, n20, n26, n32, yb⟩) W => write_any ⟨(y0 : Int), tx.data.toList, n2, n8, n14, n20, n26, n32, yb⟩ (may_fit h) W)
  dsimp only [evA] at HRi HWr
  rw [hnm] at HRi HWr
  clear hnm hD hn2 hn8 hn14 hn20 hn26 hn32 htx hyb2
  go_enter Tryz.func11, Tryz.ntmps11
  go_upto_region 4 with (go_at_call 36; (with_reducible_and_instances (refine HU.out.mono ?_)); rintro r w1 ⟨v1, rfl, ho1, hb1⟩; obtain ⟨a1, c1, hv1, hq1, hc1, hc2⟩ := ho1.slice m1 HM1.out; have hlt1 := own_ltT ho1 hv1; subst hv1; have HQ1 := hid hq1; have HB1 := hid hb1; have HZ1 := hid (HZ.out.later hb1); have lz1 := (HZ.out.later hb1).lt; obtain ⟨q1, o1, rfl, hqs, hqc⟩ := hq1.cells (by omega); have f0 : w1.cell? ⟨q1, o1, none⟩ = some (.int .u8 (y0 : Int)) := by { have h := hqc 0 (by omega); rw [hy0] at h; exact h }; have f1 : w1.cell? ⟨q1, o1 + 1, none⟩ = some (.int .u8 (y1 : Int)) := by { have h := hqc 1 (by omega); rw [hy1] at h; exact h }; have hy8 : y0 < 256 ∧ y1 < 256 := ⟨by rw [← hy0]; exact getD_lt hq1.2.2.1 0, by rw [← hy1]; exact getD_lt hq1.2.2.1 1⟩; clear ho1 hb1 hq1 hlt1 hqc)
  have g0 : 0 < m1 := by omega
  have g1 : 1 < m1 := by omega
  have g1i : (1 : Int) < (m1 : Int) := by omega
  have hw8 : IntKind.i64.wrap (y0 : Int) = (y0 : Int) := by rw [IntKind.wrap_i64]; omega
  apply once
  case main =>
    intro hmm
    go_region_law (fail)
    all_goals exact hmm
  (try rw [hyb])
  have hxa : Blk (w1.alloc (.cells #[.int .i64 (y0 : Int), .string ⟨#[]⟩, .int .i64 0, .int .i64 0, .int .i64 0, .int .i64 0, .int .i64 0, .int .i64 0, .bool yb] REv)).drew w1.heap.size #[.int .i64 (y0 : Int), .string ⟨#[]⟩, .int .i64 0, .int .i64 0, .int .i64 0, .int .i64 0, .int .i64 0, .int .i64 0, .bool yb] REv := heap_alloc_new w1 _
  have hba : Below w1.heap.size w1 (w1.alloc (.cells #[.int .i64 (y0 : Int), .string ⟨#[]⟩, .int .i64 0, .int .i64 0, .int .i64 0, .int .i64 0, .int .i64 0, .int .i64 0, .bool yb] REv)).drew := ((Below.refl _ _).alloc (Nat.le_refl _) _).drew
  obtain ⟨Wa, hWa⟩ : ∃ q, (w1.alloc (.cells #[.int .i64 (y0 : Int), .string ⟨#[]⟩, .int .i64 0, .int .i64 0, .int .i64 0, .int .i64 0, .int .i64 0, .int .i64 0, .bool yb] REv)).drew = q := ⟨_, rfl⟩
  rw [hWa] at hxa hba
  (try rw [hWa])
  have HX0 := hid hxa
  have HBa0 := hid hba
  have HPt0 : Hid (Part.ok Wa ⟨some ⟨q1, o1, none⟩, m1, c1, ub⟩) := HQ1.out.later hba
  clear hxa hba hWa hyb f0 f1 hw8 hy0 hy1 g0 g1 g1i hy8
  obtain ⟨W_0, rfl⟩ : ∃ q, q = Wa := ⟨Wa, rfl⟩
  have HCur := hid ((HRG.out W_0 _ _ HPt0.out).1)
  have cc := HX0.out.cell 2
  simp only [List.getElem?_toArray, List.getElem?_cons_zero, List.getElem?_cons_succ] at cc
  have ff := HX0.out.free 2
  go_upto_region 6 with (go_at_call 37; (with_reducible_and_instances (refine HCur.out.mono ?_)); rintro r w9 ⟨rfl, hw9⟩; obtain rfl := hw9.symm)
  have HX1 : Hid (Blk (W_0.setCell ⟨w1.heap.size, 2, none⟩ (.int .i64 n2)) w1.heap.size #[.int .i64 (y0 : Int), .string ⟨#[]⟩, .int .i64 n2, .int .i64 0, .int .i64 0, .int .i64 0, .int .i64 0, .int .i64 0, .bool yb] REv) := HX0.out.set 2 (.int .i64 n2)
  have HCh0 : Hid (Chg [w1.heap.size] W_0 (W_0.setCell ⟨w1.heap.size, 2, none⟩ (.int .i64 n2))) := (Chg.refl _ _).set (Or.inl (by simp)) 2 _
  have HPt1 : Hid (Part.ok (W_0.setCell ⟨w1.heap.size, 2, none⟩ (.int .i64 n2)) ⟨some ⟨q1, o1, none⟩, m1, c1, ub⟩) := HPt0.out.chg HCh0.out (fun k off e _ hm => by simp at hm e; omega)
  have HBa1 : Hid (Below w1.heap.size w1 (W_0.setCell ⟨w1.heap.size, 2, none⟩ (.int .i64 n2))) := HBa0.out.trans (HCh0.out.below (fun k hk => by simp at hk; omega) HBa0.out.size)
  obtain ⟨W_1, hWn⟩ : ∃ q, W_0.setCell ⟨w1.heap.size, 2, none⟩ (.int .i64 n2) = q := ⟨_, rfl⟩
  rw [hWn] at HX1 HPt1 HBa1 HCh0
  (try rw [hWn])
  clear hWn cc ff HCur HCh0
  have HCur := hid ((HRG.out W_1 _ _ HPt1.out).2.1)
  have cc := HX1.out.cell 3
  simp only [List.getElem?_toArray, List.getElem?_cons_zero, List.getElem?_cons_succ] at cc
  have ff := HX1.out.free 3
  go_upto_region 7 with (go_at_call 37; (with_reducible_and_instances (refine HCur.out.mono ?_)); rintro r w9 ⟨rfl, hw9⟩; obtain rfl := hw9.symm)
  have HX2 : Hid (Blk (W_1.setCell ⟨w1.heap.size, 3, none⟩ (.int .i64 n8)) w1.heap.size #[.int .i64 (y0 : Int), .string ⟨#[]⟩, .int .i64 n2, .int .i64 n8, .int .i64 0, .int .i64 0, .int .i64 0, .int .i64 0, .bool yb] REv) := HX1.out.set 3 (.int .i64 n8)
  have HCh1 : Hid (Chg [w1.heap.size] W_1 (W_1.setCell ⟨w1.heap.size, 3, none⟩ (.int .i64 n8))) := (Chg.refl _ _).set (Or.inl (by simp)) 3 _
  have HPt2 : Hid (Part.ok (W_1.setCell ⟨w1.heap.size, 3, none⟩ (.int .i64 n8)) ⟨some ⟨q1, o1, none⟩, m1, c1, ub⟩) := HPt1.out.chg HCh1.out (fun k off e _ hm => by simp at hm e; omega)
  have HBa2 : Hid (Below w1.heap.size w1 (W_1.setCell ⟨w1.heap.size, 3, none⟩ (.int .i64 n8))) := HBa1.out.trans (HCh1.out.below (fun k hk => by simp at hk; omega) HBa1.out.size)
  obtain ⟨W_2, hWn⟩ : ∃ q, W_1.setCell ⟨w1.heap.size, 3, none⟩ (.int .i64 n8) = q := ⟨_, rfl⟩
  rw [hWn] at HX2 HPt2 HBa2 HCh1
  (try rw [hWn])
  clear hWn cc ff HCur HCh1
  have HCur := hid ((HRG.out W_2 _ _ HPt2.out).2.2.1)
  have cc := HX2.out.cell 4
  simp only [List.getElem?_toArray, List.getElem?_cons_zero, List.getElem?_cons_succ] at cc
  have ff := HX2.out.free 4
  go_upto_region 8 with (go_at_call 37; (with_reducible_and_instances (refine HCur.out.mono ?_)); rintro r w9 ⟨rfl, hw9⟩; obtain rfl := hw9.symm)
  have HX3 : Hid (Blk (W_2.setCell ⟨w1.heap.size, 4, none⟩ (.int .i64 n14)) w1.heap.size #[.int .i64 (y0 : Int), .string ⟨#[]⟩, .int .i64 n2, .int .i64 n8, .int .i64 n14, .int .i64 0, .int .i64 0, .int .i64 0, .bool yb] REv) := HX2.out.set 4 (.int .i64 n14)
  have HCh2 : Hid (Chg [w1.heap.size] W_2 (W_2.setCell ⟨w1.heap.size, 4, none⟩ (.int .i64 n14))) := (Chg.refl _ _).set (Or.inl (by simp)) 4 _
  have HPt3 : Hid (Part.ok (W_2.setCell ⟨w1.heap.size, 4, none⟩ (.int .i64 n14)) ⟨some ⟨q1, o1, none⟩, m1, c1, ub⟩) := HPt2.out.chg HCh2.out (fun k off e _ hm => by simp at hm e; omega)
  have HBa3 : Hid (Below w1.heap.size w1 (W_2.setCell ⟨w1.heap.size, 4, none⟩ (.int .i64 n14))) := HBa2.out.trans (HCh2.out.below (fun k hk => by simp at hk; omega) HBa2.out.size)
  obtain ⟨W_3, hWn⟩ : ∃ q, W_2.setCell ⟨w1.heap.size, 4, none⟩ (.int .i64 n14) = q := ⟨_, rfl⟩
  rw [hWn] at HX3 HPt3 HBa3 HCh2
  (try rw [hWn])
  clear hWn cc ff HCur HCh2
  have HCur := hid ((HRG.out W_3 _ _ HPt3.out).2.2.2.1)
  have cc := HX3.out.cell 5
  simp only [List.getElem?_toArray, List.getElem?_cons_zero, List.getElem?_cons_succ] at cc
  have ff := HX3.out.free 5
  go_upto_region 9 with (go_at_call 37; (with_reducible_and_instances (refine HCur.out.mono ?_)); rintro r w9 ⟨rfl, hw9⟩; obtain rfl := hw9.symm)
  have HX4 : Hid (Blk (W_3.setCell ⟨w1.heap.size, 5, none⟩ (.int .i64 n20)) w1.heap.size #[.int .i64 (y0 : Int), .string ⟨#[]⟩, .int .i64 n2, .int .i64 n8, .int .i64 n14, .int .i64 n20, .int .i64 0, .int .i64 0, .bool yb] REv) := HX3.out.set 5 (.int .i64 n20)
  have HCh3 : Hid (Chg [w1.heap.size] W_3 (W_3.setCell ⟨w1.heap.size, 5, none⟩ (.int .i64 n20))) := (Chg.refl _ _).set (Or.inl (by simp)) 5 _
  have HPt4 : Hid (Part.ok (W_3.setCell ⟨w1.heap.size, 5, none⟩ (.int .i64 n20)) ⟨some ⟨q1, o1, none⟩, m1, c1, ub⟩) := HPt3.out.chg HCh3.out (fun k off e _ hm => by simp at hm e; omega)
  have HBa4 : Hid (Below w1.heap.size w1 (W_3.setCell ⟨w1.heap.size, 5, none⟩ (.int .i64 n20))) := HBa3.out.trans (HCh3.out.below (fun k hk => by simp at hk; omega) HBa3.out.size)
  obtain ⟨W_4, hWn⟩ : ∃ q, W_3.setCell ⟨w1.heap.size, 5, none⟩ (.int .i64 n20) = q := ⟨_, rfl⟩
  rw [hWn] at HX4 HPt4 HBa4 HCh3
  (try rw [hWn])
  clear hWn cc ff HCur HCh3
  have HCur := hid ((HRG.out W_4 _ _ HPt4.out).2.2.2.2.1)
  have cc := HX4.out.cell 6
  simp only [List.getElem?_toArray, List.getElem?_cons_zero, List.getElem?_cons_succ] at cc
  have ff := HX4.out.free 6
  go_upto_region 10 with (go_at_call 37; (with_reducible_and_instances (refine HCur.out.mono ?_)); rintro r w9 ⟨rfl, hw9⟩; obtain rfl := hw9.symm)
  have HX5 : Hid (Blk (W_4.setCell ⟨w1.heap.size, 6, none⟩ (.int .i64 n26)) w1.heap.size #[.int .i64 (y0 : Int), .string ⟨#[]⟩, .int .i64 n2, .int .i64 n8, .int .i64 n14, .int .i64 n20, .int .i64 n26, .int .i64 0, .bool yb] REv) := HX4.out.set 6 (.int .i64 n26)
  have HCh4 : Hid (Chg [w1.heap.size] W_4 (W_4.setCell ⟨w1.heap.size, 6, none⟩ (.int .i64 n26))) := (Chg.refl _ _).set (Or.inl (by simp)) 6 _
  have HPt5 : Hid (Part.ok (W_4.setCell ⟨w1.heap.size, 6, none⟩ (.int .i64 n26)) ⟨some ⟨q1, o1, none⟩, m1, c1, ub⟩) := HPt4.out.chg HCh4.out (fun k off e _ hm => by simp at hm e; omega)
  have HBa5 : Hid (Below w1.heap.size w1 (W_4.setCell ⟨w1.heap.size, 6, none⟩ (.int .i64 n26))) := HBa4.out.trans (HCh4.out.below (fun k hk => by simp at hk; omega) HBa4.out.size)
  obtain ⟨W_5, hWn⟩ : ∃ q, W_4.setCell ⟨w1.heap.size, 6, none⟩ (.int .i64 n26) = q := ⟨_, rfl⟩
  rw [hWn] at HX5 HPt5 HBa5 HCh4
  (try rw [hWn])
  clear hWn cc ff HCur HCh4
  have HCur := hid ((HRG.out W_5 _ _ HPt5.out).2.2.2.2.2)
  have cc := HX5.out.cell 7
  simp only [List.getElem?_toArray, List.getElem?_cons_zero, List.getElem?_cons_succ] at cc
  have ff := HX5.out.free 7
  go_upto_region 11 with (go_at_call 37; (with_reducible_and_instances (refine HCur.out.mono ?_)); rintro r w9 ⟨rfl, hw9⟩; obtain rfl := hw9.symm)
  have HX6 : Hid (Blk (W_5.setCell ⟨w1.heap.size, 7, none⟩ (.int .i64 n32)) w1.heap.size #[.int .i64 (y0 : Int), .string ⟨#[]⟩, .int .i64 n2, .int .i64 n8, .int .i64 n14, .int .i64 n20, .int .i64 n26, .int .i64 n32, .bool yb] REv) := HX5.out.set 7 (.int .i64 n32)
  have HCh5 : Hid (Chg [w1.heap.size] W_5 (W_5.setCell ⟨w1.heap.size, 7, none⟩ (.int .i64 n32))) := (Chg.refl _ _).set (Or.inl (by simp)) 7 _
  have HPt6 : Hid (Part.ok (W_5.setCell ⟨w1.heap.size, 7, none⟩ (.int .i64 n32)) ⟨some ⟨q1, o1, none⟩, m1, c1, ub⟩) := HPt5.out.chg HCh5.out (fun k off e _ hm => by simp at hm e; omega)
  have HBa6 : Hid (Below w1.heap.size w1 (W_5.setCell ⟨w1.heap.size, 7, none⟩ (.int .i64 n32))) := HBa5.out.trans (HCh5.out.below (fun k hk => by simp at hk; omega) HBa5.out.size)
  obtain ⟨W_6, hWn⟩ : ∃ q, W_5.setCell ⟨w1.heap.size, 7, none⟩ (.int .i64 n32) = q := ⟨_, rfl⟩
  rw [hWn] at HX6 HPt6 HBa6 HCh5
  (try rw [hWn])
  clear hWn cc ff HCur HCh5
  have HCur := hid (HRT.out W_6 _ _ HPt6.out hc1)
  have cc := HX6.out.cell 1
  simp only [List.getElem?_toArray, List.getElem?_cons_zero, List.getElem?_cons_succ] at cc
  have ff := HX6.out.free 1
  go_upto_region 12 with (go_at_call 38; (with_reducible_and_instances (refine HCur.out.mono ?_)); rintro r w9 ⟨rfl, hw9⟩; obtain rfl := hw9.symm)
  have HX7 : Hid (Blk (W_6.setCell ⟨w1.heap.size, 1, none⟩ (.string tx)) w1.heap.size #[.int .i64 (y0 : Int), .string tx, .int .i64 n2, .int .i64 n8, .int .i64 n14, .int .i64 n20, .int .i64 n26, .int .i64 n32, .bool yb] REv) := HX6.out.set 1 (.string tx)
  have HCh6 : Hid (Chg [w1.heap.size] W_6 (W_6.setCell ⟨w1.heap.size, 1, none⟩ (.string tx))) := (Chg.refl _ _).set (Or.inl (by simp)) 1 _
  have HPt7 : Hid (Part.ok (W_6.setCell ⟨w1.heap.size, 1, none⟩ (.string tx)) ⟨some ⟨q1, o1, none⟩, m1, c1, ub⟩) := HPt6.out.chg HCh6.out (fun k off e _ hm => by simp at hm e; omega)
  have HBa7 : Hid (Below w1.heap.size w1 (W_6.setCell ⟨w1.heap.size, 1, none⟩ (.string tx))) := HBa6.out.trans (HCh6.out.below (fun k hk => by simp at hk; omega) HBa6.out.size)
  obtain ⟨W_7, hWn⟩ : ∃ q, W_6.setCell ⟨w1.heap.size, 1, none⟩ (.string tx) = q := ⟨_, rfl⟩
  rw [hWn] at HX7 HPt7 HBa7 HCh6
  (try rw [hWn])
  clear hWn cc ff HCur HCh6
  clear HX0 HX1 HX2 HX3 HX4 HX5 HX6 HPt0 HPt1 HPt2 HPt3 HPt4 HPt5 HPt6 HBa0 HBa1 HBa2 HBa3 HBa4 HBa5 HBa6 HRG HRT
  obtain ⟨bx, hbx⟩ : ∃ bx, bstr l = bx := ⟨_, rfl⟩
  have HBx := hid hbx
  have HS : Hid (∀ W, Below W_7.heap.size W_7 W → (W.cell? ⟨w1.heap.size, 0, none⟩ = some (.int .i64 (y0 : Int))) ∧ (W.cell? ⟨w1.heap.size, 1, none⟩ = some (.string tx)) ∧ (W.cell? ⟨w1.heap.size, 2, none⟩ = some (.int .i64 n2)) ∧ (W.cell? ⟨w1.heap.size, 3, none⟩ = some (.int .i64 n8)) ∧ (W.cell? ⟨w1.heap.size, 4, none⟩ = some (.int .i64 n14)) ∧ (W.cell? ⟨w1.heap.size, 5, none⟩ = some (.int .i64 n20)) ∧ (W.cell? ⟨w1.heap.size, 6, none⟩ = some (.int .i64 n26)) ∧ (W.cell? ⟨w1.heap.size, 7, none⟩ = some (.int .i64 n32)) ∧ (W.cell? ⟨w1.heap.size, 8, none⟩ = some (.bool yb)) ∧ (convert 24 9 (.slice ad len cap)).run Tryz.prog W = .ok (.string bx) W) := fun W hW => by
    have hx := HX7.out.later hW
    have hc := conv_any (HP.out.later (HB0.out.trans ((HB1.out.trans ((HBa7.out.trans (hW.mono HBa7.out.size)).mono HB1.out.size)).mono HB0.out.size))).2.2 len cap HP.out.1
    rw [hbx] at hc
    exact ⟨hx.cell 0, hx.cell 1, hx.cell 2, hx.cell 3, hx.cell 4, hx.cell 5, hx.cell 6, hx.cell 7, hx.cell 8, hc⟩
  clear hbx
  have HLt6 := hid HX7.out.lt
  have HZ6 := hid (HZ1.out.later HBa7.out)
  have HW6 : Hid (∀ W, Below W_7.heap.size W_7 W → Blk W w.heap.size #[.int .i64 0, .string ⟨#[]⟩, .int .i64 0, .int .i64 0, .int .i64 0, .int .i64 0, .int .i64 0, .int .i64 0, .bool false] REv) := fun W hW => HZ6.out.later hW
  have HT6 : Hid (∀ W, Below W_7.heap.size W_7 W → Below W0.heap.size W0 W) := fun W hW => HB1.out.trans ((HBa7.out.trans (hW.mono HBa7.out.size)).mono HB1.out.size)
  by_cases hte : te = 0
  case neg =>
    have hteb : (te == 0) = false := by simpa using hte
    have HG : Hid (GotT l evZ 22) := HNo.out (fun h => hte h.2.2.2.1)
    clear HNo HYs HRi HWr
    refine wp_region_held_drew (S := fun W => (W.cell? ⟨w1.heap.size, 0, none⟩ = some (.int .i64 (y0 : Int))) ∧ (W.cell? ⟨w1.heap.size, 1, none⟩ = some (.string tx)) ∧ (W.cell? ⟨w1.heap.size, 2, none⟩ = some (.int .i64 n2)) ∧ (W.cell? ⟨w1.heap.size, 3, none⟩ = some (.int .i64 n8)) ∧ (W.cell? ⟨w1.heap.size, 4, none⟩ = some (.int .i64 n14)) ∧ (W.cell? ⟨w1.heap.size, 5, none⟩ = some (.int .i64 n20)) ∧ (W.cell? ⟨w1.heap.size, 6, none⟩ = some (.int .i64 n26)) ∧ (W.cell? ⟨w1.heap.size, 7, none⟩ = some (.int .i64 n32)) ∧ (W.cell? ⟨w1.heap.size, 8, none⟩ = some (.bool yb)) ∧ (convert 24 9 (.slice ad len cap)).run Tryz.prog W = .ok (.string bx) W) (by kernel_rfl) (HS.out _ (Below.refl _ W_7).drew) (fun hHeld => ?_)
    refine wpAnyH_take (i := 0) (oi := { dst := some 86, op := Op.move (Operand.tmp 7), type := 3, pos := "ref.go:125", after := #[], guard := none }) (v := ?_) rfl (by kernel_rfl) (by kernel_rfl) (by kernel_rfl) (fun _ _ _ h => h) (Or.inl ⟨by rfl, ?_⟩) hHeld ?_
    rotate_left
    · intro w hSw; (try dsimp only at hSw); go_simp; try with_reducible rfl
    try simp only [Act.put, List.setIfInBounds_toArray, List.set_cons_zero, List.set_cons_succ]
    refine wpAnyH_take (i := 1) (oi := { dst := some 87, op := Op.binOp BinOp.neq 3 (Operand.tmp 86) (Operand.const (Value.int IntKind.i64 0)) 3, type := 4, pos := "ref.go:125", after := #[{ on := 0, ground := Ground.data }], guard := none }) (v := .bool true) rfl (by kernel_rfl) (by kernel_rfl) (by kernel_rfl) (fun _ _ _ h => h) (Or.inl ⟨by rfl, ?_⟩) hHeld ?_
    · intro w hSw; (try dsimp only at hSw); go_simp
    try simp only [Act.put, List.setIfInBounds_toArray, List.set_cons_zero, List.set_cons_succ]
    refine wpAnyH_take (i := 2) (oi := { dst := some 88, op := Op.move (Operand.tmp 87), type := 4, pos := "ref.go:125", after := #[{ on := 1, ground := Ground.data }], guard := none }) (v := ?_) rfl (by kernel_rfl) (by kernel_rfl) (by kernel_rfl) (fun _ _ _ h => h) (Or.inl ⟨by rfl, ?_⟩) hHeld ?_
    rotate_left
    · intro w hSw; (try dsimp only at hSw); go_simp; try with_reducible rfl
    try simp only [Act.put, List.setIfInBounds_toArray, List.set_cons_zero, List.set_cons_succ]
    refine wpAnyH_take (i := 3) (oi := { dst := some 89, op := Op.load 23 (Operand.tmp 8), type := 23, pos := "ref.go:125", after := #[{ on := 2, ground := Ground.guard }], guard := some (2, false) }) (v := undef) rfl (by kernel_rfl) (by kernel_rfl) (by kernel_rfl) (fun _ _ _ h => h) (Or.inr ⟨by kernel_rfl, rfl⟩) hHeld ?_
    try simp only [Act.put, List.setIfInBounds_toArray, List.set_cons_zero, List.set_cons_succ]
    refine wpAnyH_take (i := 4) (oi := { dst := some 90, op := Op.call { callee := Callee.value (Operand.func 29), args := #[Operand.tmp 89], argTypes := #[23] }, type := 4, pos := "ref.go:125", after := #[{ on := 3, ground := Ground.data }, { on := 2, ground := Ground.chain }, { on := 2, ground := Ground.guard }], guard := some (2, false) }) (v := undef) rfl (by kernel_rfl) (by kernel_rfl) (by kernel_rfl) (fun _ _ _ h => h) (Or.inr ⟨by kernel_rfl, rfl⟩) hHeld ?_
    try simp only [Act.put, List.setIfInBounds_toArray, List.set_cons_zero, List.set_cons_succ]
    refine wpAnyH_take (i := 5) (oi := { dst := some 91, op := Op.unOp UnOp.not 4 (Operand.tmp 90), type := 4, pos := "ref.go:125", after := #[{ on := 4, ground := Ground.data }, { on := 2, ground := Ground.guard }], guard := some (2, false) }) (v := undef) rfl (by kernel_rfl) (by kernel_rfl) (by kernel_rfl) (fun _ _ _ h => h) (Or.inr ⟨by kernel_rfl, rfl⟩) hHeld ?_
    try simp only [Act.put, List.setIfInBounds_toArray, List.set_cons_zero, List.set_cons_succ]
    refine wpAnyH_take (i := 6) (oi := { dst := some 92, op := Op.pick (Operand.tmp 88) (Operand.const (Value.bool true)) (Operand.tmp 91), type := 4, pos := "ref.go:125", after := #[{ on := 2, ground := Ground.data }, { on := 5, ground := Ground.data }], guard := none }) (v := ?_) rfl (by kernel_rfl) (by kernel_rfl) (by kernel_rfl) (fun _ _ _ h => h) (Or.inl ⟨by rfl, ?_⟩) hHeld ?_
    rotate_left
    · intro w hSw; (try dsimp only at hSw); go_simp; try with_reducible rfl
    try simp only [Act.put, List.setIfInBounds_toArray, List.set_cons_zero, List.set_cons_succ]
    refine wpAnyH_take (i := 7) (oi := { dst := some 93, op := Op.move (Operand.tmp 92), type := 4, pos := "ref.go:125", after := #[{ on := 6, ground := Ground.data }, { on := 4, ground := Ground.chain }], guard := none }) (v := ?_) rfl (by kernel_rfl) (by kernel_rfl) (by kernel_rfl) (fun _ _ _ h => h) (Or.inl ⟨by rfl, ?_⟩) hHeld ?_
    rotate_left
    · intro w hSw; (try dsimp only at hSw); go_simp; try with_reducible rfl
    try simp only [Act.put, List.setIfInBounds_toArray, List.set_cons_zero, List.set_cons_succ]
    refine wpAnyH_take (i := 8) (oi := { dst := some 94, op := Op.load 23 (Operand.tmp 8), type := 23, pos := "ref.go:125", after := #[{ on := 7, ground := Ground.guard }], guard := some (7, false) }) (v := undef) rfl (by kernel_rfl) (by kernel_rfl) (by kernel_rfl) (fun _ _ _ h => h) (Or.inr ⟨by kernel_rfl, rfl⟩) hHeld ?_
    try simp only [Act.put, List.setIfInBounds_toArray, List.set_cons_zero, List.set_cons_succ]
    refine wpAnyH_take (i := 9) (oi := { dst := some 95, op := Op.call { callee := Callee.value (Operand.func 30), args := #[Operand.tmp 94], argTypes := #[23] }, type := 24, pos := "ref.go:125", after := #[{ on := 8, ground := Ground.data }, { on := 7, ground := Ground.chain }, { on := 7, ground := Ground.guard }], guard := some (7, false) }) (v := undef) rfl (by kernel_rfl) (by kernel_rfl) (by kernel_rfl) (fun _ _ _ h => h) (Or.inr ⟨by kernel_rfl, rfl⟩) hHeld ?_
    try simp only [Act.put, List.setIfInBounds_toArray, List.set_cons_zero, List.set_cons_succ]
    refine wpAnyH_take (i := 10) (oi := { dst := some 96, op := Op.convert 24 9 (Operand.tmp 95), type := 9, pos := "ref.go:125", after := #[{ on := 9, ground := Ground.data }, { on := 7, ground := Ground.guard }], guard := some (7, false) }) (v := undef) rfl (by kernel_rfl) (by kernel_rfl) (by kernel_rfl) (fun _ _ _ h => h) (Or.inr ⟨by kernel_rfl, rfl⟩) hHeld ?_
    try simp only [Act.put, List.setIfInBounds_toArray, List.set_cons_zero, List.set_cons_succ]
    refine wpAnyH_take (i := 11) (oi := { dst := some 97, op := Op.move (Operand.tmp 0), type := 24, pos := "ref.go:125", after := #[{ on := 7, ground := Ground.guard }], guard := some (7, false) }) (v := undef) rfl (by kernel_rfl) (by kernel_rfl) (by kernel_rfl) (fun _ _ _ h => h) (Or.inr ⟨by kernel_rfl, rfl⟩) hHeld ?_
    try simp only [Act.put, List.setIfInBounds_toArray, List.set_cons_zero, List.set_cons_succ]
    refine wpAnyH_take (i := 12) (oi := { dst := some 98, op := Op.convert 24 9 (Operand.tmp 97), type := 9, pos := "ref.go:125", after := #[{ on := 11, ground := Ground.data }, { on := 7, ground := Ground.guard }], guard := some (7, false) }) (v := undef) rfl (by kernel_rfl) (by kernel_rfl) (by kernel_rfl) (fun _ _ _ h => h) (Or.inr ⟨by kernel_rfl, rfl⟩) hHeld ?_
    try simp only [Act.put, List.setIfInBounds_toArray, List.set_cons_zero, List.set_cons_succ]
    refine wpAnyH_take (i := 13) (oi := { dst := some 99, op := Op.binOp BinOp.neq 9 (Operand.tmp 96) (Operand.tmp 98) 9, type := 4, pos := "ref.go:125", after := #[{ on := 10, ground := Ground.data }, { on := 12, ground := Ground.data }, { on := 7, ground := Ground.guard }], guard := some (7, false) }) (v := undef) rfl (by kernel_rfl) (by kernel_rfl) (by kernel_rfl) (fun _ _ _ h => h) (Or.inr ⟨by kernel_rfl, rfl⟩) hHeld ?_
    try simp only [Act.put, List.setIfInBounds_toArray, List.set_cons_zero, List.set_cons_succ]
    refine wpAnyH_take (i := 14) (oi := { dst := some 100, op := Op.pick (Operand.tmp 93) (Operand.const (Value.bool true)) (Operand.tmp 99), type := 4, pos := "ref.go:125", after := #[{ on := 7, ground := Ground.data }, { on := 13, ground := Ground.data }], guard := none }) (v := ?_) rfl (by kernel_rfl) (by kernel_rfl) (by kernel_rfl) (fun _ _ _ h => h) (Or.inl ⟨by rfl, ?_⟩) hHeld ?_
    rotate_left
    · intro w hSw; (try dsimp only at hSw); go_simp; try with_reducible rfl
    try simp only [Act.put, List.setIfInBounds_toArray, List.set_cons_zero, List.set_cons_succ]
    refine wpAnyH_done (by kernel_rfl) ?_ _
    clear hHeld
    have HZ7 := hid (HW6.out W_7.drew (Below.refl _ _).drew)
    have lz7 := HZ7.out.lt
    go_wp2_with (refine store_rev evZ rfl (.tmp 2) (.tmp 101) rfl rfl rfl HZ7.out rfl ?_; intro W9 hx9 hc9)
    exact bodyPost_ret (ret_rev2 Tryz.results11 _ _ w.heap.size evZ rfl hx9) rfl ⟨evZ, 22, rfl, HG.out, hfin.out W_7.drew W9 (HT6.out W_7.drew (Below.refl _ _).drew) hc9⟩
  subst hte
  by_cases hmay : Ev.may ⟨(y0 : Int), tx.data.toList, n2, n8, n14, n20, n26, n32, yb⟩
  case neg =>
    have HG : Hid (GotT l evZ 22) := HNo.out (fun h => hmay h.2.2.2.2.1)
    rw [decide_eq_false hmay] at HRi
    clear HNo HYs HWr hmay
    refine wp_region_held_drew (S := fun W => (W.cell? ⟨w1.heap.size, 0, none⟩ = some (.int .i64 (y0 : Int))) ∧ (W.cell? ⟨w1.heap.size, 1, none⟩ = some (.string tx)) ∧ (W.cell? ⟨w1.heap.size, 2, none⟩ = some (.int .i64 n2)) ∧ (W.cell? ⟨w1.heap.size, 3, none⟩ = some (.int .i64 n8)) ∧ (W.cell? ⟨w1.heap.size, 4, none⟩ = some (.int .i64 n14)) ∧ (W.cell? ⟨w1.heap.size, 5, none⟩ = some (.int .i64 n20)) ∧ (W.cell? ⟨w1.heap.size, 6, none⟩ = some (.int .i64 n26)) ∧ (W.cell? ⟨w1.heap.size, 7, none⟩ = some (.int .i64 n32)) ∧ (W.cell? ⟨w1.heap.size, 8, none⟩ = some (.bool yb)) ∧ (convert 24 9 (.slice ad len cap)).run Tryz.prog W = .ok (.string bx) W) (by kernel_rfl) (HS.out _ (Below.refl _ W_7).drew) (fun hHeld => ?_)
    refine wpAnyH_take (i := 0) (oi := { dst := some 86, op := Op.move (Operand.tmp 7), type := 3, pos := "ref.go:125", after := #[], guard := none }) (v := ?_) rfl (by kernel_rfl) (by kernel_rfl) (by kernel_rfl) (fun _ _ _ h => h) (Or.inl ⟨by rfl, ?_⟩) hHeld ?_
    rotate_left
    · intro w hSw; (try dsimp only at hSw); go_simp; try with_reducible rfl
    try simp only [Act.put, List.setIfInBounds_toArray, List.set_cons_zero, List.set_cons_succ]
    refine wpAnyH_take (i := 1) (oi := { dst := some 87, op := Op.binOp BinOp.neq 3 (Operand.tmp 86) (Operand.const (Value.int IntKind.i64 0)) 3, type := 4, pos := "ref.go:125", after := #[{ on := 0, ground := Ground.data }], guard := none }) (v := ?_) rfl (by kernel_rfl) (by kernel_rfl) (by kernel_rfl) (fun _ _ _ h => h) (Or.inl ⟨by rfl, ?_⟩) hHeld ?_
    rotate_left
    · intro w hSw; (try dsimp only at hSw); go_simp; try with_reducible rfl
    try simp only [Act.put, List.setIfInBounds_toArray, List.set_cons_zero, List.set_cons_succ]
    refine wpAnyH_take (i := 2) (oi := { dst := some 88, op := Op.move (Operand.tmp 87), type := 4, pos := "ref.go:125", after := #[{ on := 1, ground := Ground.data }], guard := none }) (v := ?_) rfl (by kernel_rfl) (by kernel_rfl) (by kernel_rfl) (fun _ _ _ h => h) (Or.inl ⟨by rfl, ?_⟩) hHeld ?_
    rotate_left
    · intro w hSw; (try dsimp only at hSw); go_simp; try with_reducible rfl
    try simp only [Act.put, List.setIfInBounds_toArray, List.set_cons_zero, List.set_cons_succ]
    refine wpAnyH_take (i := 3) (oi := { dst := some 89, op := Op.load 23 (Operand.tmp 8), type := 23, pos := "ref.go:125", after := #[{ on := 2, ground := Ground.guard }], guard := some (2, false) }) (v := ?_) rfl (by kernel_rfl) (by kernel_rfl) (by kernel_rfl) (fun _ _ _ h => h) (Or.inl ⟨by rfl, ?_⟩) hHeld ?_
    rotate_left
    · intro w hSw; (try dsimp only at hSw); go_simp; try with_reducible rfl
    try simp only [Act.put, List.setIfInBounds_toArray, List.set_cons_zero, List.set_cons_succ]
    refine wpAnyH_ready (rs := [4]) (by kernel_rfl) (by simp) ?_
    refine AllReadyH.cons rfl (fun K hK => ?_) (AllReadyH.nil)
    go_simp
    go_wp2_with (go_at_call 29; refine (HRi.out _).mono ?_; rintro r W2 ⟨rfl, hb2⟩; have HB2 := hid ((Below.refl _ W_7).drew.trans hb2); clear hb2)
    refine hK.out _ _ (HS.out _ HB2.out) (fun hHeld => ?_)
    clear hK K
    try simp only [Act.put, List.setIfInBounds_toArray, List.set_cons_zero, List.set_cons_succ]
    refine wpAnyH_take (i := 5) (oi := { dst := some 91, op := Op.unOp UnOp.not 4 (Operand.tmp 90), type := 4, pos := "ref.go:125", after := #[{ on := 4, ground := Ground.data }, { on := 2, ground := Ground.guard }], guard := some (2, false) }) (v := ?_) rfl (by kernel_rfl) (by kernel_rfl) (by kernel_rfl) (fun _ _ _ h => h) (Or.inl ⟨by rfl, ?_⟩) hHeld ?_
    rotate_left
    · intro w hSw; (try dsimp only at hSw); go_simp; try with_reducible rfl
    try simp only [Act.put, List.setIfInBounds_toArray, List.set_cons_zero, List.set_cons_succ]
    refine wpAnyH_take (i := 6) (oi := { dst := some 92, op := Op.pick (Operand.tmp 88) (Operand.const (Value.bool true)) (Operand.tmp 91), type := 4, pos := "ref.go:125", after := #[{ on := 2, ground := Ground.data }, { on := 5, ground := Ground.data }], guard := none }) (v := ?_) rfl (by kernel_rfl) (by kernel_rfl) (by kernel_rfl) (fun _ _ _ h => h) (Or.inl ⟨by rfl, ?_⟩) hHeld ?_
    rotate_left
    · intro w hSw; (try dsimp only at hSw); go_simp; try with_reducible rfl
    try simp only [Act.put, List.setIfInBounds_toArray, List.set_cons_zero, List.set_cons_succ]
    refine wpAnyH_take (i := 7) (oi := { dst := some 93, op := Op.move (Operand.tmp 92), type := 4, pos := "ref.go:125", after := #[{ on := 6, ground := Ground.data }, { on := 4, ground := Ground.chain }], guard := none }) (v := ?_) rfl (by kernel_rfl) (by kernel_rfl) (by kernel_rfl) (fun _ _ _ h => h) (Or.inl ⟨by rfl, ?_⟩) hHeld ?_
    rotate_left
    · intro w hSw; (try dsimp only at hSw); go_simp; try with_reducible rfl
    try simp only [Act.put, List.setIfInBounds_toArray, List.set_cons_zero, List.set_cons_succ]
    refine wpAnyH_take (i := 8) (oi := { dst := some 94, op := Op.load 23 (Operand.tmp 8), type := 23, pos := "ref.go:125", after := #[{ on := 7, ground := Ground.guard }], guard := some (7, false) }) (v := undef) rfl (by kernel_rfl) (by kernel_rfl) (by kernel_rfl) (fun _ _ _ h => h) (Or.inr ⟨by kernel_rfl, rfl⟩) hHeld ?_
    try simp only [Act.put, List.setIfInBounds_toArray, List.set_cons_zero, List.set_cons_succ]
    refine wpAnyH_take (i := 9) (oi := { dst := some 95, op := Op.call { callee := Callee.value (Operand.func 30), args := #[Operand.tmp 94], argTypes := #[23] }, type := 24, pos := "ref.go:125", after := #[{ on := 8, ground := Ground.data }, { on := 7, ground := Ground.chain }, { on := 7, ground := Ground.guard }], guard := some (7, false) }) (v := undef) rfl (by kernel_rfl) (by kernel_rfl) (by kernel_rfl) (fun _ _ _ h => h) (Or.inr ⟨by kernel_rfl, rfl⟩) hHeld ?_
    try simp only [Act.put, List.setIfInBounds_toArray, List.set_cons_zero, List.set_cons_succ]
    refine wpAnyH_take (i := 10) (oi := { dst := some 96, op := Op.convert 24 9 (Operand.tmp 95), type := 9, pos := "ref.go:125", after := #[{ on := 9, ground := Ground.data }, { on := 7, ground := Ground.guard }], guard := some (7, false) }) (v := undef) rfl (by kernel_rfl) (by kernel_rfl) (by kernel_rfl) (fun _ _ _ h => h) (Or.inr ⟨by kernel_rfl, rfl⟩) hHeld ?_
    try simp only [Act.put, List.setIfInBounds_toArray, List.set_cons_zero, List.set_cons_succ]
    refine wpAnyH_take (i := 11) (oi := { dst := some 97, op := Op.move (Operand.tmp 0), type := 24, pos := "ref.go:125", after := #[{ on := 7, ground := Ground.guard }], guard := some (7, false) }) (v := undef) rfl (by kernel_rfl) (by kernel_rfl) (by kernel_rfl) (fun _ _ _ h => h) (Or.inr ⟨by kernel_rfl, rfl⟩) hHeld ?_
    try simp only [Act.put, List.setIfInBounds_toArray, List.set_cons_zero, List.set_cons_succ]
    refine wpAnyH_take (i := 12) (oi := { dst := some 98, op := Op.convert 24 9 (Operand.tmp 97), type := 9, pos := "ref.go:125", after := #[{ on := 11, ground := Ground.data }, { on := 7, ground := Ground.guard }], guard := some (7, false) }) (v := undef) rfl (by kernel_rfl) (by kernel_rfl) (by kernel_rfl) (fun _ _ _ h => h) (Or.inr ⟨by kernel_rfl, rfl⟩) hHeld ?_
    try simp only [Act.put, List.setIfInBounds_toArray, List.set_cons_zero, List.set_cons_succ]
    refine wpAnyH_take (i := 13) (oi := { dst := some 99, op := Op.binOp BinOp.neq 9 (Operand.tmp 96) (Operand.tmp 98) 9, type := 4, pos := "ref.go:125", after := #[{ on := 10, ground := Ground.data }, { on := 12, ground := Ground.data }, { on := 7, ground := Ground.guard }], guard := some (7, false) }) (v := undef) rfl (by kernel_rfl) (by kernel_rfl) (by kernel_rfl) (fun _ _ _ h => h) (Or.inr ⟨by kernel_rfl, rfl⟩) hHeld ?_
    try simp only [Act.put, List.setIfInBounds_toArray, List.set_cons_zero, List.set_cons_succ]
    refine wpAnyH_take (i := 14) (oi := { dst := some 100, op := Op.pick (Operand.tmp 93) (Operand.const (Value.bool true)) (Operand.tmp 99), type := 4, pos := "ref.go:125", after := #[{ on := 7, ground := Ground.data }, { on := 13, ground := Ground.data }], guard := none }) (v := ?_) rfl (by kernel_rfl) (by kernel_rfl) (by kernel_rfl) (fun _ _ _ h => h) (Or.inl ⟨by rfl, ?_⟩) hHeld ?_
    rotate_left
    · intro w hSw; (try dsimp only at hSw); go_simp; try with_reducible rfl
    try simp only [Act.put, List.setIfInBounds_toArray, List.set_cons_zero, List.set_cons_succ]
    refine wpAnyH_done (by kernel_rfl) ?_ _
    clear hHeld
    have HZ7 := hid (HW6.out W2 HB2.out)
    have lz7 := HZ7.out.lt
    go_wp2_with (refine store_rev evZ rfl (.tmp 2) (.tmp 101) rfl rfl rfl HZ7.out rfl ?_; intro W9 hx9 hc9)
    exact bodyPost_ret (ret_rev2 Tryz.results11 _ _ w.heap.size evZ rfl hx9) rfl ⟨evZ, 22, rfl, HG.out, hfin.out W2 W9 (HT6.out W2 HB2.out) hc9⟩
  rw [decide_eq_true hmay] at HRi
  have HWm := hid (HWr.out hmay)
  obtain ⟨R, hR⟩ : ∃ R, tellE ⟨(y0 : Int), tx.data.toList, n2, n8, n14, n20, n26, n32, yb⟩ = R := ⟨_, rfl⟩
  rw [hR] at HWm HNo HYs
  have hR8 : ∀ z ∈ R, z < 256 := by
    intro z hz
    obtain ⟨W9, -⟩ : ∃ W9 : World, True := ⟨w, trivial⟩
    rw [← hR] at hz
    exact tell_lt _ z hz
  obtain ⟨rs, hrs⟩ : ∃ rs, bstr R = rs := ⟨_, rfl⟩
  have HRs := hid hrs
  by_cases hRl : R = l
  case neg =>
    have HG : Hid (GotT l evZ 22) := HNo.out (fun h => hRl h.2.2.2.2.2)
    have hE := bstr_beqT hR8 HP.out.2.2.1 false (by simp [hRl])
    have hE1 := bstr_beqT1 hR8 HP.out.2.2.1 false (by simp [hRl])
    rw [hrs, HBx.out] at hE hE1
    clear HNo HYs HWr hmay hR hRl hR8 hrs
    refine wp_region_held_drew (S := fun W => (W.cell? ⟨w1.heap.size, 0, none⟩ = some (.int .i64 (y0 : Int))) ∧ (W.cell? ⟨w1.heap.size, 1, none⟩ = some (.string tx)) ∧ (W.cell? ⟨w1.heap.size, 2, none⟩ = some (.int .i64 n2)) ∧ (W.cell? ⟨w1.heap.size, 3, none⟩ = some (.int .i64 n8)) ∧ (W.cell? ⟨w1.heap.size, 4, none⟩ = some (.int .i64 n14)) ∧ (W.cell? ⟨w1.heap.size, 5, none⟩ = some (.int .i64 n20)) ∧ (W.cell? ⟨w1.heap.size, 6, none⟩ = some (.int .i64 n26)) ∧ (W.cell? ⟨w1.heap.size, 7, none⟩ = some (.int .i64 n32)) ∧ (W.cell? ⟨w1.heap.size, 8, none⟩ = some (.bool yb)) ∧ (convert 24 9 (.slice ad len cap)).run Tryz.prog W = .ok (.string bx) W) (by kernel_rfl) (HS.out _ (Below.refl _ W_7).drew) (fun hHeld => ?_)
    refine wpAnyH_take (i := 0) (oi := { dst := some 86, op := Op.move (Operand.tmp 7), type := 3, pos := "ref.go:125", after := #[], guard := none }) (v := ?_) rfl (by kernel_rfl) (by kernel_rfl) (by kernel_rfl) (fun _ _ _ h => h) (Or.inl ⟨by rfl, ?_⟩) hHeld ?_
    rotate_left
    · intro w hSw; (try dsimp only at hSw); go_simp; try with_reducible rfl
    try simp only [Act.put, List.setIfInBounds_toArray, List.set_cons_zero, List.set_cons_succ]
    refine wpAnyH_take (i := 1) (oi := { dst := some 87, op := Op.binOp BinOp.neq 3 (Operand.tmp 86) (Operand.const (Value.int IntKind.i64 0)) 3, type := 4, pos := "ref.go:125", after := #[{ on := 0, ground := Ground.data }], guard := none }) (v := ?_) rfl (by kernel_rfl) (by kernel_rfl) (by kernel_rfl) (fun _ _ _ h => h) (Or.inl ⟨by rfl, ?_⟩) hHeld ?_
    rotate_left
    · intro w hSw; (try dsimp only at hSw); go_simp; try with_reducible rfl
    try simp only [Act.put, List.setIfInBounds_toArray, List.set_cons_zero, List.set_cons_succ]
    refine wpAnyH_take (i := 2) (oi := { dst := some 88, op := Op.move (Operand.tmp 87), type := 4, pos := "ref.go:125", after := #[{ on := 1, ground := Ground.data }], guard := none }) (v := ?_) rfl (by kernel_rfl) (by kernel_rfl) (by kernel_rfl) (fun _ _ _ h => h) (Or.inl ⟨by rfl, ?_⟩) hHeld ?_
    rotate_left
    · intro w hSw; (try dsimp only at hSw); go_simp; try with_reducible rfl
    try simp only [Act.put, List.setIfInBounds_toArray, List.set_cons_zero, List.set_cons_succ]
    refine wpAnyH_take (i := 3) (oi := { dst := some 89, op := Op.load 23 (Operand.tmp 8), type := 23, pos := "ref.go:125", after := #[{ on := 2, ground := Ground.guard }], guard := some (2, false) }) (v := ?_) rfl (by kernel_rfl) (by kernel_rfl) (by kernel_rfl) (fun _ _ _ h => h) (Or.inl ⟨by rfl, ?_⟩) hHeld ?_
    rotate_left
    · intro w hSw; (try dsimp only at hSw); go_simp; try with_reducible rfl
    try simp only [Act.put, List.setIfInBounds_toArray, List.set_cons_zero, List.set_cons_succ]
    refine wpAnyH_ready (rs := [4]) (by kernel_rfl) (by simp) ?_
    refine AllReadyH.cons rfl (fun K hK => ?_) (AllReadyH.nil)
    go_simp
    go_wp2_with (go_at_call 29; refine (HRi.out _).mono ?_; rintro r W2 ⟨rfl, hb2⟩; have HB2 := hid ((Below.refl _ W_7).drew.trans hb2); clear hb2)
    refine hK.out _ _ (HS.out _ HB2.out) (fun hHeld => ?_)
    clear hK K
    try simp only [Act.put, List.setIfInBounds_toArray, List.set_cons_zero, List.set_cons_succ]
    refine wpAnyH_take (i := 5) (oi := { dst := some 91, op := Op.unOp UnOp.not 4 (Operand.tmp 90), type := 4, pos := "ref.go:125", after := #[{ on := 4, ground := Ground.data }, { on := 2, ground := Ground.guard }], guard := some (2, false) }) (v := ?_) rfl (by kernel_rfl) (by kernel_rfl) (by kernel_rfl) (fun _ _ _ h => h) (Or.inl ⟨by rfl, ?_⟩) hHeld ?_
    rotate_left
    · intro w hSw; (try dsimp only at hSw); go_simp; try with_reducible rfl
    try simp only [Act.put, List.setIfInBounds_toArray, List.set_cons_zero, List.set_cons_succ]
    refine wpAnyH_take (i := 6) (oi := { dst := some 92, op := Op.pick (Operand.tmp 88) (Operand.const (Value.bool true)) (Operand.tmp 91), type := 4, pos := "ref.go:125", after := #[{ on := 2, ground := Ground.data }, { on := 5, ground := Ground.data }], guard := none }) (v := ?_) rfl (by kernel_rfl) (by kernel_rfl) (by kernel_rfl) (fun _ _ _ h => h) (Or.inl ⟨by rfl, ?_⟩) hHeld ?_
    rotate_left
    · intro w hSw; (try dsimp only at hSw); go_simp; try with_reducible rfl
    try simp only [Act.put, List.setIfInBounds_toArray, List.set_cons_zero, List.set_cons_succ]
    refine wpAnyH_take (i := 7) (oi := { dst := some 93, op := Op.move (Operand.tmp 92), type := 4, pos := "ref.go:125", after := #[{ on := 6, ground := Ground.data }, { on := 4, ground := Ground.chain }], guard := none }) (v := ?_) rfl (by kernel_rfl) (by kernel_rfl) (by kernel_rfl) (fun _ _ _ h => h) (Or.inl ⟨by rfl, ?_⟩) hHeld ?_
    rotate_left
    · intro w hSw; (try dsimp only at hSw); go_simp; try with_reducible rfl
    try simp only [Act.put, List.setIfInBounds_toArray, List.set_cons_zero, List.set_cons_succ]
    refine wpAnyH_take (i := 8) (oi := { dst := some 94, op := Op.load 23 (Operand.tmp 8), type := 23, pos := "ref.go:125", after := #[{ on := 7, ground := Ground.guard }], guard := some (7, false) }) (v := ?_) rfl (by kernel_rfl) (by kernel_rfl) (by kernel_rfl) (fun _ _ _ h => h) (Or.inl ⟨by rfl, ?_⟩) hHeld ?_
    rotate_left
    · intro w hSw; (try dsimp only at hSw); go_simp; try with_reducible rfl
    try simp only [Act.put, List.setIfInBounds_toArray, List.set_cons_zero, List.set_cons_succ]
    refine wpAnyH_take (i := 11) (oi := { dst := some 97, op := Op.move (Operand.tmp 0), type := 24, pos := "ref.go:125", after := #[{ on := 7, ground := Ground.guard }], guard := some (7, false) }) (v := ?_) rfl (by kernel_rfl) (by kernel_rfl) (by kernel_rfl) (fun _ _ _ h => h) (Or.inl ⟨by rfl, ?_⟩) hHeld ?_
    rotate_left
    · intro w hSw; (try dsimp only at hSw); go_simp; try with_reducible rfl
    try simp only [Act.put, List.setIfInBounds_toArray, List.set_cons_zero, List.set_cons_succ]
    refine wpAnyH_take (i := 12) (oi := { dst := some 98, op := Op.convert 24 9 (Operand.tmp 97), type := 9, pos := "ref.go:125", after := #[{ on := 11, ground := Ground.data }, { on := 7, ground := Ground.guard }], guard := some (7, false) }) (v := ?_) rfl (by kernel_rfl) (by kernel_rfl) (by kernel_rfl) (fun _ _ _ h => h) (Or.inl ⟨by rfl, ?_⟩) hHeld ?_
    rotate_left
    · intro w hSw; (try dsimp only at hSw); go_simp; try with_reducible rfl
    try simp only [Act.put, List.setIfInBounds_toArray, List.set_cons_zero, List.set_cons_succ]
    refine wpAnyH_ready (rs := [9]) (by kernel_rfl) (by simp) ?_
    refine AllReadyH.cons rfl (fun K hK => ?_) (AllReadyH.nil)
    go_simp
    go_wp2_with (go_at_call 30; refine (HWm.out W2).mono ?_; rintro r W3 ⟨v3, rfl, ho3, hb3⟩; obtain ⟨a3, c3, hv3, hq3, -, -⟩ := ho3.slice R.length rfl; subst hv3; have hcv := conv_any hq3.2.2 R.length c3 hq3.1; rw [HRs.out] at hcv; have HB3 := hid (HB2.out.trans (hb3.mono HB2.out.size)); clear ho3 hb3 hq3)
    refine hK.out _ _ (HS.out _ HB3.out) (fun hHeld => ?_)
    clear hK K
    try simp only [Act.put, List.setIfInBounds_toArray, List.set_cons_zero, List.set_cons_succ]
    refine wpAnyH_ready (rs := [10]) (by kernel_rfl) (by simp) ?_
    refine AllReadyH.cons rfl (fun K hK => ?_) (AllReadyH.nil)
    go_simp
    refine hK.out _ _ (HS.out _ HB3.out) (fun hHeld => ?_)
    clear hK K
    try simp only [Act.put, List.setIfInBounds_toArray, List.set_cons_zero, List.set_cons_succ]
    refine wpAnyH_take (i := 13) (oi := { dst := some 99, op := Op.binOp BinOp.neq 9 (Operand.tmp 96) (Operand.tmp 98) 9, type := 4, pos := "ref.go:125", after := #[{ on := 10, ground := Ground.data }, { on := 12, ground := Ground.data }, { on := 7, ground := Ground.guard }], guard := some (7, false) }) (v := ?_) rfl (by kernel_rfl) (by kernel_rfl) (by kernel_rfl) (fun _ _ _ h => h) (Or.inl ⟨by rfl, ?_⟩) hHeld ?_
    rotate_left
    · intro w hSw; (try dsimp only at hSw); go_simp; try with_reducible rfl
    try simp only [Act.put, List.setIfInBounds_toArray, List.set_cons_zero, List.set_cons_succ]
    refine wpAnyH_take (i := 14) (oi := { dst := some 100, op := Op.pick (Operand.tmp 93) (Operand.const (Value.bool true)) (Operand.tmp 99), type := 4, pos := "ref.go:125", after := #[{ on := 7, ground := Ground.data }, { on := 13, ground := Ground.data }], guard := none }) (v := ?_) rfl (by kernel_rfl) (by kernel_rfl) (by kernel_rfl) (fun _ _ _ h => h) (Or.inl ⟨by rfl, ?_⟩) hHeld ?_
    rotate_left
    · intro w hSw; (try dsimp only at hSw); go_simp; try with_reducible rfl
    try simp only [Act.put, List.setIfInBounds_toArray, List.set_cons_zero, List.set_cons_succ]
    refine wpAnyH_done (by kernel_rfl) ?_ _
    clear hHeld
    have HZ7 := hid (HW6.out W3 HB3.out)
    have lz7 := HZ7.out.lt
    go_wp2_with (refine store_rev evZ rfl (.tmp 2) (.tmp 101) rfl rfl rfl HZ7.out rfl ?_; intro W9 hx9 hc9)
    exact bodyPost_ret (ret_rev2 Tryz.results11 _ _ w.heap.size evZ rfl hx9) rfl ⟨evZ, 22, rfl, HG.out, hfin.out W3 W9 (HT6.out W3 HB3.out) hc9⟩
  have HG : Hid (GotT l ⟨(y0 : Int), tx.data.toList, n2, n8, n14, n20, n26, n32, yb⟩ 0) := HYs.out ⟨by trivial, by trivial, h34, by trivial, hmay, hRl⟩
  have hrb : bx = rs := by rw [← hrs, hRl]; exact HBx.out.symm
  subst hrb
  clear HNo HYs HWr hmay hR hRl hR8 hrs
  refine wp_region_held_drew (S := fun W => (W.cell? ⟨w1.heap.size, 0, none⟩ = some (.int .i64 (y0 : Int))) ∧ (W.cell? ⟨w1.heap.size, 1, none⟩ = some (.string tx)) ∧ (W.cell? ⟨w1.heap.size, 2, none⟩ = some (.int .i64 n2)) ∧ (W.cell? ⟨w1.heap.size, 3, none⟩ = some (.int .i64 n8)) ∧ (W.cell? ⟨w1.heap.size, 4, none⟩ = some (.int .i64 n14)) ∧ (W.cell? ⟨w1.heap.size, 5, none⟩ = some (.int .i64 n20)) ∧ (W.cell? ⟨w1.heap.size, 6, none⟩ = some (.int .i64 n26)) ∧ (W.cell? ⟨w1.heap.size, 7, none⟩ = some (.int .i64 n32)) ∧ (W.cell? ⟨w1.heap.size, 8, none⟩ = some (.bool yb)) ∧ (convert 24 9 (.slice ad len cap)).run Tryz.prog W = .ok (.string bx) W) (by kernel_rfl) (HS.out _ (Below.refl _ W_7).drew) (fun hHeld => ?_)
  refine wpAnyH_take (i := 0) (oi := { dst := some 86, op := Op.move (Operand.tmp 7), type := 3, pos := "ref.go:125", after := #[], guard := none }) (v := ?_) rfl (by kernel_rfl) (by kernel_rfl) (by kernel_rfl) (fun _ _ _ h => h) (Or.inl ⟨by rfl, ?_⟩) hHeld ?_
  rotate_left
  · intro w hSw; (try dsimp only at hSw); go_simp; try with_reducible rfl
  try simp only [Act.put, List.setIfInBounds_toArray, List.set_cons_zero, List.set_cons_succ]
  refine wpAnyH_take (i := 1) (oi := { dst := some 87, op := Op.binOp BinOp.neq 3 (Operand.tmp 86) (Operand.const (Value.int IntKind.i64 0)) 3, type := 4, pos := "ref.go:125", after := #[{ on := 0, ground := Ground.data }], guard := none }) (v := ?_) rfl (by kernel_rfl) (by kernel_rfl) (by kernel_rfl) (fun _ _ _ h => h) (Or.inl ⟨by rfl, ?_⟩) hHeld ?_
  rotate_left
  · intro w hSw; (try dsimp only at hSw); go_simp; try with_reducible rfl
  try simp only [Act.put, List.setIfInBounds_toArray, List.set_cons_zero, List.set_cons_succ]
  refine wpAnyH_take (i := 2) (oi := { dst := some 88, op := Op.move (Operand.tmp 87), type := 4, pos := "ref.go:125", after := #[{ on := 1, ground := Ground.data }], guard := none }) (v := ?_) rfl (by kernel_rfl) (by kernel_rfl) (by kernel_rfl) (fun _ _ _ h => h) (Or.inl ⟨by rfl, ?_⟩) hHeld ?_
  rotate_left
  · intro w hSw; (try dsimp only at hSw); go_simp; try with_reducible rfl
  try simp only [Act.put, List.setIfInBounds_toArray, List.set_cons_zero, List.set_cons_succ]
  refine wpAnyH_take (i := 3) (oi := { dst := some 89, op := Op.load 23 (Operand.tmp 8), type := 23, pos := "ref.go:125", after := #[{ on := 2, ground := Ground.guard }], guard := some (2, false) }) (v := ?_) rfl (by kernel_rfl) (by kernel_rfl) (by kernel_rfl) (fun _ _ _ h => h) (Or.inl ⟨by rfl, ?_⟩) hHeld ?_
  rotate_left
  · intro w hSw; (try dsimp only at hSw); go_simp; try with_reducible rfl
  try simp only [Act.put, List.setIfInBounds_toArray, List.set_cons_zero, List.set_cons_succ]
  refine wpAnyH_ready (rs := [4]) (by kernel_rfl) (by simp) ?_
  refine AllReadyH.cons rfl (fun K hK => ?_) (AllReadyH.nil)
  go_simp
  go_wp2_with (go_at_call 29; refine (HRi.out _).mono ?_; rintro r W2 ⟨rfl, hb2⟩; have HB2 := hid ((Below.refl _ W_7).drew.trans hb2); clear hb2)
  refine hK.out _ _ (HS.out _ HB2.out) (fun hHeld => ?_)
  clear hK K
  try simp only [Act.put, List.setIfInBounds_toArray, List.set_cons_zero, List.set_cons_succ]
  refine wpAnyH_take (i := 5) (oi := { dst := some 91, op := Op.unOp UnOp.not 4 (Operand.tmp 90), type := 4, pos := "ref.go:125", after := #[{ on := 4, ground := Ground.data }, { on := 2, ground := Ground.guard }], guard := some (2, false) }) (v := ?_) rfl (by kernel_rfl) (by kernel_rfl) (by kernel_rfl) (fun _ _ _ h => h) (Or.inl ⟨by rfl, ?_⟩) hHeld ?_
  rotate_left
  · intro w hSw; (try dsimp only at hSw); go_simp; try with_reducible rfl
  try simp only [Act.put, List.setIfInBounds_toArray, List.set_cons_zero, List.set_cons_succ]
  refine wpAnyH_take (i := 6) (oi := { dst := some 92, op := Op.pick (Operand.tmp 88) (Operand.const (Value.bool true)) (Operand.tmp 91), type := 4, pos := "ref.go:125", after := #[{ on := 2, ground := Ground.data }, { on := 5, ground := Ground.data }], guard := none }) (v := ?_) rfl (by kernel_rfl) (by kernel_rfl) (by kernel_rfl) (fun _ _ _ h => h) (Or.inl ⟨by rfl, ?_⟩) hHeld ?_
  rotate_left
  · intro w hSw; (try dsimp only at hSw); go_simp; try with_reducible rfl
  try simp only [Act.put, List.setIfInBounds_toArray, List.set_cons_zero, List.set_cons_succ]
  refine wpAnyH_take (i := 7) (oi := { dst := some 93, op := Op.move (Operand.tmp 92), type := 4, pos := "ref.go:125", after := #[{ on := 6, ground := Ground.data }, { on := 4, ground := Ground.chain }], guard := none }) (v := ?_) rfl (by kernel_rfl) (by kernel_rfl) (by kernel_rfl) (fun _ _ _ h => h) (Or.inl ⟨by rfl, ?_⟩) hHeld ?_
  rotate_left
  · intro w hSw; (try dsimp only at hSw); go_simp; try with_reducible rfl
  try simp only [Act.put, List.setIfInBounds_toArray, List.set_cons_zero, List.set_cons_succ]
  refine wpAnyH_take (i := 8) (oi := { dst := some 94, op := Op.load 23 (Operand.tmp 8), type := 23, pos := "ref.go:125", after := #[{ on := 7, ground := Ground.guard }], guard := some (7, false) }) (v := ?_) rfl (by kernel_rfl) (by kernel_rfl) (by kernel_rfl) (fun _ _ _ h => h) (Or.inl ⟨by rfl, ?_⟩) hHeld ?_
  rotate_left
  · intro w hSw; (try dsimp only at hSw); go_simp; try with_reducible rfl
  try simp only [Act.put, List.setIfInBounds_toArray, List.set_cons_zero, List.set_cons_succ]
  refine wpAnyH_take (i := 11) (oi := { dst := some 97, op := Op.move (Operand.tmp 0), type := 24, pos := "ref.go:125", after := #[{ on := 7, ground := Ground.guard }], guard := some (7, false) }) (v := ?_) rfl (by kernel_rfl) (by kernel_rfl) (by kernel_rfl) (fun _ _ _ h => h) (Or.inl ⟨by rfl, ?_⟩) hHeld ?_
  rotate_left
  · intro w hSw; (try dsimp only at hSw); go_simp; try with_reducible rfl
  try simp only [Act.put, List.setIfInBounds_toArray, List.set_cons_zero, List.set_cons_succ]
  refine wpAnyH_take (i := 12) (oi := { dst := some 98, op := Op.convert 24 9 (Operand.tmp 97), type := 9, pos := "ref.go:125", after := #[{ on := 11, ground := Ground.data }, { on := 7, ground := Ground.guard }], guard := some (7, false) }) (v := ?_) rfl (by kernel_rfl) (by kernel_rfl) (by kernel_rfl) (fun _ _ _ h => h) (Or.inl ⟨by rfl, ?_⟩) hHeld ?_
  rotate_left
  · intro w hSw; (try dsimp only at hSw); go_simp; try with_reducible rfl
  try simp only [Act.put, List.setIfInBounds_toArray, List.set_cons_zero, List.set_cons_succ]
  refine wpAnyH_ready (rs := [9]) (by kernel_rfl) (by simp) ?_
  refine AllReadyH.cons rfl (fun K hK => ?_) (AllReadyH.nil)
  go_simp
  go_wp2_with (go_at_call 30; refine (HWm.out W2).mono ?_; rintro r W3 ⟨v3, rfl, ho3, hb3⟩; obtain ⟨a3, c3, hv3, hq3, -, -⟩ := ho3.slice R.length rfl; subst hv3; have hcv := conv_any hq3.2.2 R.length c3 hq3.1; rw [HRs.out] at hcv; have HB3 := hid (HB2.out.trans (hb3.mono HB2.out.size)); clear ho3 hb3 hq3)
  refine hK.out _ _ (HS.out _ HB3.out) (fun hHeld => ?_)
  clear hK K
  try simp only [Act.put, List.setIfInBounds_toArray, List.set_cons_zero, List.set_cons_succ]
  refine wpAnyH_ready (rs := [10]) (by kernel_rfl) (by simp) ?_
  refine AllReadyH.cons rfl (fun K hK => ?_) (AllReadyH.nil)
  go_simp
  refine hK.out _ _ (HS.out _ HB3.out) (fun hHeld => ?_)
  clear hK K
  try simp only [Act.put, List.setIfInBounds_toArray, List.set_cons_zero, List.set_cons_succ]
  refine wpAnyH_take (i := 13) (oi := { dst := some 99, op := Op.binOp BinOp.neq 9 (Operand.tmp 96) (Operand.tmp 98) 9, type := 4, pos := "ref.go:125", after := #[{ on := 10, ground := Ground.data }, { on := 12, ground := Ground.data }, { on := 7, ground := Ground.guard }], guard := some (7, false) }) (v := ?_) rfl (by kernel_rfl) (by kernel_rfl) (by kernel_rfl) (fun _ _ _ h => h) (Or.inl ⟨by rfl, ?_⟩) hHeld ?_
  rotate_left
  · intro w hSw; (try dsimp only at hSw); go_simp; try with_reducible rfl
  try simp only [Act.put, List.setIfInBounds_toArray, List.set_cons_zero, List.set_cons_succ]
  refine wpAnyH_take (i := 14) (oi := { dst := some 100, op := Op.pick (Operand.tmp 93) (Operand.const (Value.bool true)) (Operand.tmp 99), type := 4, pos := "ref.go:125", after := #[{ on := 7, ground := Ground.data }, { on := 13, ground := Ground.data }], guard := none }) (v := ?_) rfl (by kernel_rfl) (by kernel_rfl) (by kernel_rfl) (fun _ _ _ h => h) (Or.inl ⟨by rfl, ?_⟩) hHeld ?_
  rotate_left
  · intro w hSw; (try dsimp only at hSw); go_simp; try with_reducible rfl
  try simp only [Act.put, List.setIfInBounds_toArray, List.set_cons_zero, List.set_cons_succ]
  refine wpAnyH_done (by kernel_rfl) ?_ _
  clear hHeld
  have HZ7 := hid (HW6.out W3 HB3.out)
  have lz7 := HZ7.out.lt
  obtain ⟨k0, k1, k2, k3, k4, k5, k6, k7, k8, -⟩ := HS.out W3 HB3.out
  go_wp2_with (refine store_rev ⟨(y0 : Int), tx.data.toList, n2, n8, n14, n20, n26, n32, yb⟩ rfl (.tmp 2) (.tmp 102) rfl rfl rfl HZ7.out rfl ?_; intro W9 hx9 hc9)
  exact bodyPost_ret (ret_rev2 Tryz.results11 _ _ w.heap.size ⟨(y0 : Int), tx.data.toList, n2, n8, n14, n20, n26, n32, yb⟩ rfl hx9) rfl ⟨⟨(y0 : Int), tx.data.toList, n2, n8, n14, n20, n26, n32, yb⟩, 0, rfl, HG.out, hfin.out W3 W9 (HT6.out W3 HB3.out) hc9⟩
end Go.Proofs.YtiiepmljcjbflaaGreat
