/- TxnMarks: a transaction that is to end does so just when each of its places was marked (P1608; by genmarks16.py). -/
import Derived.Test.YtkheifdigjajeaaTMarksM
import Derived.Test.YtkheifdigjajeaaTPlaces
import Derived.Test.YtkheifdigjajeaaTSame
import Derived.Test.YtkheifdigjajeaaOpen
import Derived.OpenShut
namespace Go.Proofs.Ytkheifdigjajeaa
open Go.RowKit Go.Shelf
open Go.ChangeShapes Go.WideShapes Go.ChangeAt
variable {w w' W : World} {g M n : Nat} {pl : List Int}

/-- Numbers that came in. -/
def NumsP (W : World) (f : Nat → Int) (ad : Option Addr) (len : Nat) : Prop := len = 0 ∨ ∃ b off, ad = some ⟨b, off, none⟩ ∧ b < W.heap.size ∧ ∀ i, i < len → W.cell? ⟨b, off + i, none⟩ = some (.int .i64 (f i))
theorem open_numsP {H : Type} {enc : TypeId × Value → H} {W : World} {ad : Option Addr} {len cap : Nat} {d : DataW H} {p : List MemPlace} (h : DataW.Trod enc Try.prog W 0 (fun _ => true) true 35 (.slice ad len cap) d p) : ∃ f, NumsP W f ad len ∧ len ≤ maxLen := by
  obtain ⟨fuel, hf⟩ := h
  rcases open_ints Try.underlying35 Try.underlying3 (by kernel_rfl) hf with ⟨hcs, hx⟩ | ⟨x, l, c, zs, hcs, _, hl, hm, hz, hx, hcell, hwz⟩
  · simp [Value.cells] at hcs
    obtain ⟨rfl, rfl, rfl⟩ := hcs
    exact ⟨fun _ => 0, Or.inl rfl, by unfold maxLen; omega⟩
  · simp [Value.cells] at hcs
    obtain ⟨rfl, rfl, rfl⟩ := hcs
    simp only [if_true] at hz
    refine ⟨fun i => zs.getD i 0, ?_, by omega⟩
    by_cases h0 : len = 0
    · exact Or.inl h0
    · right
      obtain ⟨b, off, spot⟩ := x
      have hc0 := hcell 0 (by omega)
      have hspot : spot = none := by simpa [Addr.add] using World.cell?_spot hc0
      subst hspot
      have hb : b < W.heap.size := by
        rcases Nat.lt_or_ge b W.heap.size with h | h
        · exact h
        · simp [Addr.add, World.cell?, Array.getElem?_eq_none h] at hc0
      refine ⟨b, off, rfl, hb, fun i hi => ?_⟩
      have e := hcell i (by omega)
      rw [addr_add] at e
      exact e
theorem NumsP.cells {f : Nat → Int} {ad : Option Addr} {len : Nat} (h : NumsP w f ad len) (h0 : 0 < len) : ∃ b off, ad = some ⟨b, off, none⟩ ∧ ∀ W, Below w.heap.size w W → ∀ i, i < len → W.cell? ⟨b, off + i, none⟩ = some (.int .i64 (f i)) := by
  rcases h with h | ⟨b, off, e, hb, hc⟩
  · omega
  · exact ⟨b, off, e, fun W hW i hi => (hW.cell (p := ⟨b, off + i, none⟩) hb).trans (hc i hi)⟩
theorem tmodA (x : Int) {n : Int} (hn : 0 < n) : -n < x.tmod n ∧ x.tmod n < n := by
  constructor
  · have := Int.lt_tmod_of_pos x hn; omega
  · exact Int.tmod_lt_of_pos x hn
theorem tmodB (x : Int) {n : Int} (hn : 0 < n) : 0 ≤ (x.tmod n + n).tmod n ∧ (x.tmod n + n).tmod n < n := by
  have h := tmodA x hn
  rw [Int.tmod_eq_emod_of_nonneg (by omega)]
  exact ⟨Int.emod_nonneg _ (by omega), Int.emod_lt_of_pos _ hn⟩
abbrev TMb : TypeId := 53
theorem keyI2 : Maps.Keyed Try.prog 3 := Maps.int_keyed Try.underlying3
theorem keyOf_q {p : Int} (h : 0 ≤ p ∧ p < 1000) : keyOf Try.prog 3 (.int .i64 p) = some (Lit.int .i64 p) :=
  Maps.keyOf_int_mk Try.underlying3 (by have e1 : IntKind.i64.min = -9223372036854775808 := rfl; have e2 : IntKind.i64.max = 9223372036854775807 := rfl; simp [Lit.wf, e1, e2]; omega)
/-- The map tells which places are among pl. -/
def MetP (w : World) (M n : Nat) (pl : List Int) : Prop := ∃ f, MapF w 3 M n f ∧ ∀ q : Int, 0 ≤ q → q < 1000 → (f (.int .i64 q)).getD (.bool false) = .bool (decide (q ∈ pl))
theorem MetP.keep (h : MetP w M n pl) (hk : w'.heap[M]? = w.heap[M]?) : MetP w' M n pl := by
  obtain ⟨f, h1, h2⟩ := h
  exact ⟨f, h1.keep hk, h2⟩
theorem MetP.lt (h : MetP w M n pl) : M < w.heap.size := by obtain ⟨f, h1, -⟩ := h; exact h1.lt
theorem MetP.mono {m : Nat} (h : MetP w M n pl) (hm : n ≤ m) : MetP w M m pl := by
  obtain ⟨f, h1, h2⟩ := h
  exact ⟨f, h1.mono hm, h2⟩
theorem MetP.look (h : MetP w M n pl) {q : Int} (hq : 0 ≤ q ∧ q < 1000) : (Instr.lookup TMb (.map (some M)) (.int .i64 q) false).run Try.prog w = .ok (.bool (decide (q ∈ pl))) w := by
  obtain ⟨f, h1, h2⟩ := h
  rw [h1.look keyI2 Try.underlying53 (Try.zeroValue4 w) (keyOf_q hq), h2 q hq.1 hq.2]
theorem MetP.put (h : MetP w M n pl) (hn : n < maxLen) {q : Int} (hq : 0 ≤ q ∧ q < 1000) (b : Bool) {pl' : List Int} (h1 : decide (q ∈ pl') = b) (h2 : ∀ r, r ≠ q → (r ∈ pl' ↔ r ∈ pl)) : ∃ w', (Instr.mapUpdate TMb (.map (some M)) (.int .i64 q) (.bool b)).run Try.prog w = .ok () w' ∧ MetP w' M (n + 1) pl' ∧ Chg [M] w w' := by
  obtain ⟨f, k1, k2⟩ := h
  obtain ⟨w', hr, hM, hc⟩ := k1.store keyI2 Try.underlying53 hn (val := .bool b) (keyOf_q hq)
  refine ⟨w', hr, ⟨_, hM, fun r h3 h4 => ?_⟩, hc⟩
  by_cases e : r = q
  · subst e; rw [updF_same, h1]; rfl
  · rw [updF_other _ (fun e2 => e (by injection e2)), k2 r h3 h4]
    congr 1
    exact decide_eq_decide.2 (h2 r e).symm
/-- What holds of the places. -/
structure PlOk (pl : List Int) (n : Nat) : Prop where
  rise : pl.Pairwise (· < ·)
  num : ∀ q ∈ pl, 0 ≤ q ∧ q < 1000
  cnt : pl.length ≤ n
theorem in_num {q : Int} (h : 0 ≤ q ∧ q < 1000) : inN q := by unfold inN; omega
theorem PlOk.add {q : Int} (h : PlOk pl n) (hq : 0 ≤ q ∧ q < 1000) : PlOk (addP pl q) (n + 1) :=
  ⟨addP_rise h.rise, fun r hr => ((addP_mem r).1 hr).elim (fun e => e ▸ hq) (h.num r), by rw [addP_len]; have := h.cnt; split <;> omega⟩
theorem PlOk.erase {q : Int} (h : PlOk pl n) : PlOk (pl.erase q) n :=
  ⟨h.rise.sublist (List.erase_sublist), fun r hr => h.num r (List.mem_of_mem_erase hr), Nat.le_trans (List.erase_sublist).length_le h.cnt⟩
/-- The cells of markers in memory of one's own. -/
theorem td_row {base : Nat} {u : Value} {L : List Td} (h : OwnK kTd w base u L) (h0 : 0 < L.length) : ∃ b c, u = .slice (some ⟨b, 0, none⟩) L.length c ∧ (base ≤ b ∧ b < w.heap.size) ∧ ∀ (W : World), W.heap[b]? = w.heap[b]? → ∀ k t, L[k]? = some t → W.cell? ⟨b, k * 4, none⟩ = some (.int .i64 t.prod) ∧ W.cell? ⟨b, k * 4 + 2, none⟩ = some (.int .i64 t.place) ∧ W.cell? ⟨b, k * 4 + 3, none⟩ = some (.bool t.yes) := by
  rcases h.2 with ⟨-, e⟩ | ⟨b, cap, cur, e, hb, hg, h1, h2, h3, h4⟩
  · omega
  · have hbl : Blk w b cur kTd.T := hg
    refine ⟨b, cap, e, ⟨hb, hbl.lt⟩, fun W hW k t hk => ?_⟩
    have hkl := (List.getElem?_eq_some_iff.1 hk).1
    have hc : ∀ j, j < 4 → W.cell? ⟨b, k * 4 + j, none⟩ = (kTd.V t)[j]? := fun j hj => by
      have e0 : W.cell? ⟨b, k * 4 + j, none⟩ = w.cell? ⟨b, k * 4 + j, none⟩ := by simp only [World.cell?, hW]
      have e1 := kTd_ok.tofit.Vs_get L k j hkl hj
      rw [List.getD_eq_getElem?_getD, hk] at e1
      have h5 : cur.toList.take (L.length * 4) = kTd.Vs L := h4
      rw [e0, hbl.cell, ← Array.getElem?_toList, ← List.getElem?_take_of_lt (show k * 4 + j < L.length * 4 by omega), h5]
      exact e1
    exact ⟨hc 0 (by decide), hc 2 (by decide), hc 3 (by decide)⟩
set_option maxRecDepth 100000 in
set_option maxHeartbeats 16000000 in
theorem marks_walk {f f2 : Nat → Int} {a a2 : Option Addr} {m c m2 c2 : Nat} (h : NumsP w f a m) (hm : m ≤ maxLen) (y : Bool) (h2 : NumsP w f2 a2 m2) (hm2 : m2 ≤ maxLen) : Calls Try.prog 6 #[.slice a m c, .bool y, .slice a2 m2 c2] w fun r w' => r = .returned (.bool true) ∧ Below w.heap.size w w' := by
  have HN := hid (New_any w)
  have HA1 : Hid (∀ W g, BOx w.heap.size [] W g bk0 → w.heap.size ≤ W.heap.size → Calls Try.prog 13 #[.pointer (some ⟨g, 0, none⟩), .agg #[.int .i64 1, .string ⟨#[120]⟩, .int .i64 0, .int .i64 0, .int .i64 0, .int .i64 10, .int .i64 0, .bool false]] W fun e w' => e = .returned (.int .i64 0) ∧ BOx w.heap.size [] w' g (mO []) ∧ Below w.heap.size W w') := fun W g h hN => (h.applyK hN kx1 false 0 kn1.1 (kn1.2.trans m1)).mono (fun r w' hh => ⟨hh.1, hh.2.1, hh.2.2.1⟩)
  have HL := hid h
  have HL2 := hid h2
  have hmm : ∀ (t : TypeId) (w : World), (Instr.makeMap t none).run Try.prog w = .ok (.map (some w.heap.size)) (w.alloc (.map #[] 0)) := fun t w => run_makeMap _ w
  unfold maxLen at hm hm2
  clear h h2
  go_enter Try.func6, Try.ntmps6
  go_wp2_with (first
    | (go_at_call 17; (with_reducible_and_instances (refine HN.out.mono ?_)); rintro r w1 ⟨g, rfl, h1, hb1⟩; have HB1 := hid hb1; have HX1 := hid h1.beside; clear h1 hb1)
    | (go_at_call 16; (with_reducible_and_instances (refine (knows16 _).mono ?_)); rintro r w2 ⟨rfl, hb2⟩; have HX2 := hid (HX1.out.later hb2); have HB2 := hid (HB1.out.trans (hb2.mono HB1.out.size)); have HC2 := hid (HA1.out _ _ HX2.out HB2.out.size); clear hb2)
    | (go_at_call 13; (with_reducible_and_instances (refine HC2.out.mono ?_)); rintro r w3 ⟨rfl, h3, hb3⟩; have HX3 := hid h3; have HB3 := hid (HB2.out.trans hb3); clear h3 hb3)
    | (go_at_call 12; (with_reducible_and_instances (refine (num16_any _ _).mono ?_)); rintro r w99 ⟨rfl, hw99⟩; obtain rfl := hw99.symm))
  have HI0 : Hid (BOx w.heap.size [w3.heap.size] (w3.alloc (.map #[] 0)) g (mO []) ∧ MetP (w3.alloc (.map #[] 0)) w3.heap.size 0 [] ∧ Below w.heap.size w (w3.alloc (.map #[] 0))) := by
    refine ⟨HX3.out.more ((Below.refl _ _).alloc (Nat.le_refl _) _) (fun b hb => Or.inr (by simp at hb; subst hb; simp)), ⟨_, MapF.empty (World.alloc_heap_new w3 _), fun q _ _ => rfl⟩, HB3.out.alloc HB3.out.size _⟩
  have HP0 : Hid (PlOk [] 0) := ⟨List.Pairwise.nil, (fun q hq => by cases hq), Nat.le_refl _⟩
  have hNb := HB3.out.size
  go_loopw [8, 10] (fun nv iv wr => ∃ (i : Nat) (pl : List Int), i ≤ 50 ∧ iv = .int .i64 (i : Int) ∧ nv = .int .i64 (pl.length : Int) ∧ Hid (PlOk pl i) ∧ Hid (BOx w.heap.size [w3.heap.size] wr g (mO pl) ∧ MetP wr w3.heap.size i pl ∧ Below w.heap.size w wr)) (fun _ iv _ => 50 - (intOf iv).toNat)
  case atStart => exact ⟨0, [], by omega, rfl, rfl, HP0, HI0⟩
  case round =>
    obtain ⟨i, pl, hi, rfl, rfl, HP, HI⟩ := hrel
    obtain ⟨wo, rfl⟩ : ∃ q, q = wr := ⟨wr, rfl⟩
    clear HN HA1 HX1 HB1 HX2 HB2 HC2 HX3 HB3 HI0 HP0
    by_cases hlt : i < m ∧ i < 50
    · obtain ⟨hl1, hl2⟩ := hlt
      obtain ⟨b1, o1, rfl, hc0⟩ := HL.out.cells (by omega)
      have r0 := hc0 wo HI.out.2.2 i hl1
      obtain ⟨fi, hfi⟩ : ∃ q, f i = q := ⟨_, rfl⟩
      rw [hfi] at r0
      obtain ⟨rr, hrr⟩ : ∃ r, fi.tmod 1000 = r := ⟨_, rfl⟩
      obtain ⟨q, hq⟩ : ∃ q, (rr + 1000).tmod 1000 = q := ⟨_, rfl⟩
      have hb1 := tmodA fi (n := 1000) (by omega)
      have hb2 := tmodB fi (n := 1000) (by omega)
      rw [hrr] at hb1 hb2
      rw [hq] at hb2
      have hpc := HP.out.cnt
      have HPn : Hid (PlOk (addP pl q) (i + 1)) := HP.out.add hb2
      have HA : Hid (∀ W, BOx w.heap.size [w3.heap.size] W g (mO pl) → w.heap.size ≤ W.heap.size → Calls Try.prog 13 #[.pointer (some ⟨g, 0, none⟩), .agg #[.int .i64 2, .string ⟨#[]⟩, .int .i64 0, .int .i64 0, .int .i64 q, .int .i64 0, .int .i64 0, .bool false]] W fun e w' => e = .returned (.int .i64 0) ∧ BOx w.heap.size [w3.heap.size] w' g (mO (addP pl q)) ∧ Below w.heap.size W w' ∧ w'.heap[w3.heap.size]? = W.heap[w3.heap.size]?) := fun W h hN => by
        have h1 := h.apply hN (mx2 q)
        rw [(m_add (in_num hb2) (Nat.le_trans hpc hi)).1, (m_add (in_num hb2) (Nat.le_trans hpc hi)).2] at h1
        exact h1.mono (fun r w' hh => ⟨hh.1, hh.2.1, hh.2.2.1, hh.2.2.2 _ (List.mem_singleton.2 rfl)⟩)
      have HLk : Hid (∀ W, W.heap[w3.heap.size]? = wo.heap[w3.heap.size]? → (Instr.lookup TMb (.map (some w3.heap.size)) (.int .i64 q) false).run Try.prog W = .ok (.bool (decide (q ∈ pl))) W ∧ ∃ w', (Instr.mapUpdate TMb (.map (some w3.heap.size)) (.int .i64 q) (.bool true)).run Try.prog W = .ok () w' ∧ MetP w' w3.heap.size (i + 1) (addP pl q) ∧ Chg [w3.heap.size] W w') := fun W hW => ⟨(HI.out.2.1.keep hW).look hb2, (HI.out.2.1.keep hW).put (by unfold maxLen; omega) hb2 true (decide_eq_true ((addP_mem q).2 (Or.inl rfl))) (fun r hr => by rw [addP_mem]; exact ⟨fun h => h.resolve_left hr, Or.inr⟩)⟩
      have hal : (addP pl q).length = if q ∈ pl then pl.length else pl.length + 1 := by
        rw [addP_len]
        by_cases hqm : q ∈ pl
        · rw [if_pos hqm, if_pos (by simpa using hqm)]
        · rw [if_neg hqm, if_neg (by simpa using hqm)]
      obtain ⟨bq, hbq⟩ : ∃ b : Bool, decide (q ∈ pl) = b := ⟨_, rfl⟩
      rw [hbq] at HLk
      have hal2 : (addP pl q).length = if bq then pl.length else pl.length + 1 := by
        rw [hal, ← hbq]
        by_cases hqm : q ∈ pl <;> simp [hqm]
      clear hal hbq hc0 hfi HP HL HL2
      obtain ⟨ln, hln⟩ : ∃ l, pl.length = l := ⟨_, rfl⟩
      rw [hln] at hal2 hpc ⊢
      clear hln
      have HAo := hid (HA.out wo HI.out.1 HI.out.2.2.size)
      cases bq
      all_goals
        have HAl := hid hal2
        clear hal2
        go_wp2_with (first
          | (go_at_call 13; (with_reducible_and_instances (refine HAo.out.mono ?_)); rintro r w6 ⟨rfl, h6, hb6, hk6⟩; obtain ⟨hlk, w7, hup, hm7, hc7⟩ := HLk.out w6 hk6; have HI7 : Hid (BOx w.heap.size [w3.heap.size] w7 g (mO (addP pl q)) ∧ MetP w7 w3.heap.size (i + 1) (addP pl q) ∧ Below w.heap.size w w7) := ⟨h6.chg hc7, hm7, (HI.out.2.2.trans hb6).trans (hc7.below (fun k hk => by simp at hk; omega) (Nat.le_trans HI.out.2.2.size hb6.size))⟩; clear h6 hb6 hk6 hm7 hc7)
          | (go_at_call 12; (with_reducible_and_instances (refine (num16_any _ _).mono ?_)); rintro r w99 ⟨rfl, hw99⟩; obtain rfl := hw99.symm))
        exact ⟨⟨i + 1, addP pl q, by omega, by go_num, (by rw [HAl.out]; go_num), HPn, HI7⟩, by simp [intOf]; omega⟩
    · have hx : decide (i < m) = false ∨ (decide (i < m) = true ∧ decide (i < 50) = false ∧ decide ((i : Int) < 50) = false) := by
        by_cases h1 : i < m
        · exact Or.inr ⟨by simpa using h1, by simp; omega, by simp; omega⟩
        · exact Or.inl (by simpa using h1)
      have HA : Hid (∀ W, BOx w.heap.size [w3.heap.size] W g (mO pl) → w.heap.size ≤ W.heap.size → Calls Try.prog 13 #[.pointer (some ⟨g, 0, none⟩), .agg #[.int .i64 3, .string ⟨#[]⟩, .int .i64 0, .int .i64 0, .int .i64 0, .int .i64 0, .int .i64 0, .bool y]] W fun e w' => e = .returned (.int .i64 0) ∧ BOx w.heap.size [w3.heap.size] w' g (mE y pl) ∧ Below w.heap.size W w' ∧ w'.heap[w3.heap.size]? = W.heap[w3.heap.size]?) := fun W h hN => by
        have h1 := h.apply hN (mx3 y)
        rw [(m_end (pl := pl) (yes := y)).1, (m_end (pl := pl) (yes := y)).2] at h1
        exact h1.mono (fun r w' hh => ⟨hh.1, hh.2.1, hh.2.2.1, hh.2.2.2 _ (List.mem_singleton.2 rfl)⟩)
      have HAo := hid (HA.out wo HI.out.1 HI.out.2.2.size)
      have HP5 : Hid (PlOk pl 50) := ⟨HP.out.rise, HP.out.num, Nat.le_trans HP.out.cnt hi⟩
      obtain ⟨ln, hln⟩ : ∃ l, pl.length = l := ⟨_, rfl⟩
      have HLn := hid hln
      have hpc := HP5.out.cnt
      rw [hln] at hpc ⊢
      clear hlt hln HA HP HL
      rcases hx with hd1 | ⟨hd1, hd2, hd3⟩
      all_goals
        go_wp2_with (first
          | (go_at_call 13; (with_reducible_and_instances (refine HAo.out.mono ?_)); rintro r w6 ⟨rfl, h6, hb6, hk6⟩; have HI6 : Hid (BOx w.heap.size [w3.heap.size] w6 g (mE y pl) ∧ MetP w6 w3.heap.size 50 pl ∧ Below w.heap.size w w6) := ⟨h6, (HI.out.2.1.keep hk6).mono hi, HI.out.2.2.trans hb6⟩; clear h6 hb6 hk6)
          | (go_at_call 12; (with_reducible_and_instances (refine (num16_any _ _).mono ?_)); rintro r w99 ⟨rfl, hw99⟩; obtain rfl := hw99.symm))
        clear HAo
        go_loopw [8, 12] (fun nv jv wr => ∃ (j ln : Nat) (pl : List Int), nv = .int .i64 (ln : Int) ∧ jv = .int .i64 (j : Int) ∧ j + ln ≤ 50 ∧ Hid (pl.length = ln) ∧ Hid (PlOk pl 50) ∧ Hid (BOx w.heap.size [w3.heap.size] wr g (mE y pl) ∧ MetP wr w3.heap.size (50 + j) pl ∧ Below w.heap.size w wr)) (fun nv _ _ => (intOf nv).toNat)
        case atStart => exact ⟨0, ln, pl, rfl, rfl, by omega, HLn, HP5, HI6⟩
        case round =>
          obtain ⟨j, ln, pl, rfl, rfl, hjl, HLn, HP, HI⟩ := hrel
          obtain ⟨wo, rfl⟩ : ∃ q, q = wr := ⟨wr, rfl⟩
          clear HI6
          by_cases h0 : ln = 0
          · subst h0
            obtain rfl : pl = [] := List.eq_nil_of_length_eq_zero HLn.out
            have HSt : Hid (Calls Try.prog 11 #[.pointer (some ⟨g, 0, none⟩), .int .i64 0] wo fun e w' => e = .returned (.tuple #[.int .i64 0, .int .i64 0, .bool true]) ∧ Below wo.heap.size wo w') := by
              have h1 := HI.out.1.of.status 0
              rw [mE_st.1, mE_st.2.1, mE_st.2.2] at h1
              exact h1
            have HTo : Hid (∀ W, Below wo.heap.size wo W → Calls Try.prog 15 #[.pointer (some ⟨g, 0, none⟩)] W fun e w' => (∃ ad c, e = .returned (.slice ad 0 c)) ∧ Below W.heap.size W w') := fun W hW => by
              have h1 := (HI.out.1.later hW).of.todo
              rw [mE_todo] at h1
              refine h1.mono ?_
              rintro e w2 ⟨u, rfl, h2, h3⟩
              obtain ⟨ad, c, rfl, -⟩ := h2.form kTd_ok.tofit
              exact ⟨⟨ad, c, rfl⟩, h3⟩
            have HPl : Hid (∀ W, Below wo.heap.size wo W → Calls Try.prog 14 #[.pointer (some ⟨g, 0, none⟩), .int .i64 0] W fun e w' => (∃ ad c, e = .returned (.slice ad 0 c)) ∧ Below W.heap.size W w') := fun W hW => by
              have h1 := (HI.out.1.later hW).of.places (i := 0) (by show 0 < 1; omega)
              refine h1.mono ?_
              rintro e w2 ⟨u, rfl, h2, h3⟩
              have h2' : OwnK kZ w2 W.heap.size u [] := h2
              obtain ⟨ad, c, rfl, -⟩ := h2'.form kZ_ok.tofit
              exact ⟨⟨ad, c, rfl⟩, h3⟩
            clear HL2
            go_wp2_with (first
              | (go_at_call 11; (with_reducible_and_instances (refine HSt.out.mono ?_)); rintro r w7 ⟨rfl, hb7⟩; have HB7 := hid hb7; have HT7 := hid (HTo.out w7 hb7); clear hb7)
              | (go_at_call 15; (with_reducible_and_instances (refine HT7.out.mono ?_)); rintro r w8 ⟨⟨ad8, c8, rfl⟩, hb8⟩; have HB8 := hid (HB7.out.trans (hb8.mono HB7.out.size)); have HP8 := hid (HPl.out w8 HB8.out); clear hb8)
              | (go_at_call 14; (with_reducible_and_instances (refine HP8.out.mono ?_)); rintro r w9 ⟨⟨ad9, c9, rfl⟩, hb9⟩; have HB9 := hid (HB8.out.trans (hb9.mono HB8.out.size)); clear hb9))
            go_ret
            exact ⟨rfl, HI.out.2.2.trans (HB9.out.mono HI.out.2.2.size)⟩
          · have hl1 : 1 ≤ ln := by omega
            have hln50 : ln ≤ 50 := by omega
            have hMl := HI.out.2.1.lt
            have HTo : Hid (Calls Try.prog 15 #[.pointer (some ⟨g, 0, none⟩)] wo fun e w' => ∃ b c, e = .returned (.slice (some ⟨b, 0, none⟩) ln c) ∧ Below wo.heap.size wo w' ∧ b ≠ w3.heap.size ∧ b < w'.heap.size ∧ ∀ (W : World), W.heap[b]? = w'.heap[b]? → ∀ k, k < ln → W.cell? ⟨b, k * 4, none⟩ = some (.int .i64 0) ∧ W.cell? ⟨b, k * 4 + 2, none⟩ = some (.int .i64 (pl.getD k 0)) ∧ W.cell? ⟨b, k * 4 + 3, none⟩ = some (.bool y)) := by
              have h1 := HI.out.1.of.todo
              rw [mE_todo] at h1
              refine h1.mono ?_
              rintro e w2 ⟨u, rfl, h2, h3⟩
              obtain ⟨b, c, rfl, h4, h5⟩ := td_row h2 (by rw [List.length_map, HLn.out]; omega)
              refine ⟨b, c, by rw [List.length_map, HLn.out], h3, by omega, h4.2, fun W hW k hk => ?_⟩
              have hkl : k < pl.length := by rw [HLn.out]; exact hk
              have h6 := h5 W hW k ⟨0, 0, pl.getD k 0, y⟩ (by rw [List.getElem?_map, List.getD_eq_getElem?_getD, List.getElem?_eq_getElem hkl]; rfl)
              exact h6
            have HSt : Hid (∀ W, Below wo.heap.size wo W → Calls Try.prog 11 #[.pointer (some ⟨g, 0, none⟩), .int .i64 0] W fun e w' => e = .returned (.tuple #[.int .i64 (outc y), .int .i64 0, .bool true]) ∧ Below W.heap.size W w') := fun W hW => by
              have h1 := (HI.out.1.later hW).of.status 0
              rw [mE_st.1, mE_st.2.1, mE_st.2.2, if_neg (fun e => by have h7 := HLn.out; rw [e] at h7; simp at h7; omega)] at h1
              exact h1
            have hgo : ∀ k, k < ln → ∃ x, pl.getD k 0 = x ∧ Hid (PlOk (pl.erase x) 50 ∧ (pl.erase x).length = ln - 1) ∧
                Hid (∀ W, W.heap[w3.heap.size]? = wo.heap[w3.heap.size]? → (Instr.lookup TMb (.map (some w3.heap.size)) (.int .i64 x) false).run Try.prog W = .ok (.bool true) W ∧ ∃ w', (Instr.mapUpdate TMb (.map (some w3.heap.size)) (.int .i64 x) (.bool false)).run Try.prog W = .ok () w' ∧ MetP w' w3.heap.size (50 + (j + 1)) (pl.erase x) ∧ Chg [w3.heap.size] W w') ∧
                Hid (∀ W, BOx w.heap.size [w3.heap.size] W g (mE y pl) → w.heap.size ≤ W.heap.size → Calls Try.prog 13 #[.pointer (some ⟨g, 0, none⟩), .agg #[.int .i64 4, .string ⟨#[]⟩, .int .i64 0, .int .i64 0, .int .i64 x, .int .i64 0, .int .i64 0, .bool false]] W fun e w' => e = .returned (.int .i64 0) ∧ BOx w.heap.size [w3.heap.size] w' g (mE y (pl.erase x)) ∧ Below w.heap.size W w' ∧ w'.heap[w3.heap.size]? = W.heap[w3.heap.size]?) := fun k hk => by
              have hkl : k < pl.length := by rw [HLn.out]; exact hk
              have hx : pl.getD k 0 ∈ pl := by rw [List.getD_eq_getElem?_getD, List.getElem?_eq_getElem hkl]; exact List.getElem_mem hkl
              obtain ⟨x, hxe⟩ : ∃ x, pl.getD k 0 = x := ⟨_, rfl⟩
              rw [hxe] at hx
              have hxb := HP.out.num x hx
              refine ⟨x, hxe, ⟨HP.out.erase, by rw [List.length_erase_of_mem hx, HLn.out]⟩, fun W hW => ⟨by have h8 := (HI.out.2.1.keep hW).look hxb; rw [decide_eq_true hx] at h8; exact h8, (HI.out.2.1.keep hW).put (by unfold maxLen; omega) hxb false (decide_eq_false (fun hm => ((erase_mem HP.out.rise x).1 hm).1 rfl)) (fun r hr => by rw [erase_mem HP.out.rise]; exact ⟨fun h => h.2, fun h => ⟨hr, h⟩⟩)⟩, fun W h hN => ?_⟩
              have h1 := h.apply hN (mx4 x)
              obtain ⟨l1, l2⟩ := m_mark (yes := y) HP.out.rise (in_num hxb) hx
              rw [l1, l2] at h1
              exact h1.mono (fun r w' hh => ⟨hh.1, hh.2.1, hh.2.2.1, hh.2.2.2 _ (List.mem_singleton.2 rfl)⟩)
            have HGo := hid hgo
            have hn0 : ((ln : Int) == 0) = false := by simp; omega
            have hn1 : (ln : Int) ≠ 0 := by omega
            clear hgo
            by_cases hjm : j < m2
            · obtain ⟨b2, o2, rfl, hc2⟩ := HL2.out.cells (by omega)
              have HC2 := hid hc2
              obtain ⟨fj, hfj⟩ : ∃ q, f2 j = q := ⟨_, rfl⟩
              obtain ⟨rr, hrr⟩ : ∃ r, fj.tmod (ln : Int) = r := ⟨_, rfl⟩
              have hb1 := tmodA fj (n := (ln : Int)) (by omega)
              have hb2 := tmodB fj (n := (ln : Int)) (by omega)
              rw [hrr] at hb1 hb2
              obtain ⟨k, hk⟩ : ∃ k : Nat, (rr + (ln : Int)).tmod (ln : Int) = (k : Int) := ⟨((rr + (ln : Int)).tmod (ln : Int)).toNat, by omega⟩
              have hkl : k < ln := by omega
              obtain ⟨x, hxe, HQ, HLk, HAm⟩ := HGo.out k hkl
              have HXe := hid hxe
              have HFj := hid hfj
              clear hxe hc2 hfj HGo HL2 hb2
              cases y
              all_goals
                dsimp only [outc] at HSt
                go_wp2_with (first
                  | (go_at_call 15; (with_reducible_and_instances (refine HTo.out.mono ?_)); rintro r w5 ⟨b, c5, rfl, hb5, hbn, hbl, hcc⟩; have HB5 := hid hb5; have HCc := hid hcc; have HS5 := hid (HSt.out w5 hb5); clear hb5 hcc)
                  | (go_at_call 11; (with_reducible_and_instances (refine HS5.out.mono ?_)); rintro r w6 ⟨rfl, hb6⟩; have HB6 := hid (HB5.out.trans (hb6.mono HB5.out.size)); obtain ⟨hlk, w8, hup, hm8, hc8⟩ := HLk.out w6 (HB6.out.block _ hMl); obtain ⟨c0, c2, c3⟩ := HCc.out w6 (hb6.block _ hbl) k (by omega); obtain ⟨-, z2, -⟩ := HCc.out w8 ((hc8.block b (Nat.lt_of_lt_of_le hbl hb6.size) (by simpa using hbn)).trans (hb6.block _ hbl)) k (by omega); (rw [HXe.out] at c2 z2); have rj := HC2.out w6 (HI.out.2.2.trans (HB6.out.mono HI.out.2.2.size)) j hjm; (rw [HFj.out] at rj); have HM8 := hid hm8; have HX8 := hid ((HI.out.1.later HB6.out).chg hc8); have HB8 : Hid (Below w.heap.size w w8) := hid ((HI.out.2.2.trans (HB6.out.mono HI.out.2.2.size)).trans (hc8.below (fun k hk => by simp at hk; omega) (Nat.le_trans HI.out.2.2.size HB6.out.size))); have HA8 := hid (HAm.out w8 HX8.out HB8.out.size); clear hb6 hm8 hc8)
                  | (go_at_call 13; (with_reducible_and_instances (refine HA8.out.mono ?_)); rintro r w9 ⟨rfl, h9, hb9, hk9⟩; have HI9 : Hid (BOx w.heap.size [w3.heap.size] w9 g (mE _ (pl.erase x)) ∧ MetP w9 w3.heap.size (50 + (j + 1)) (pl.erase x) ∧ Below w.heap.size w w9) := ⟨h9, HM8.out.keep hk9, HB8.out.trans hb9⟩; clear h9 hb9 hk9)
                  | (go_at_call 12; (with_reducible_and_instances (refine (num16_any _ _).mono ?_)); rintro r w99 ⟨rfl, hw99⟩; obtain rfl := hw99.symm))
                exact ⟨⟨j + 1, ln - 1, pl.erase x, (by rw [show ((ln - 1 : Nat) : Int) = (ln : Int) - 1 by omega]), by go_num, by omega, HQ.out.2, HQ.out.1, HI9⟩, by simp [intOf]; omega⟩
            · have hdj : decide (j < m2) = false := by simpa using hjm
              obtain ⟨x, hxe, HQ, HLk, HAm⟩ := HGo.out 0 (by omega)
              have HXe := hid hxe
              clear hxe HGo HL2 hjm
              cases y
              all_goals
                dsimp only [outc] at HSt
                go_wp2_with (first
                  | (go_at_call 15; (with_reducible_and_instances (refine HTo.out.mono ?_)); rintro r w5 ⟨b, c5, rfl, hb5, hbn, hbl, hcc⟩; have HB5 := hid hb5; have HCc := hid hcc; have HS5 := hid (HSt.out w5 hb5); clear hb5 hcc)
                  | (go_at_call 11; (with_reducible_and_instances (refine HS5.out.mono ?_)); rintro r w6 ⟨rfl, hb6⟩; have HB6 := hid (HB5.out.trans (hb6.mono HB5.out.size)); obtain ⟨hlk, w8, hup, hm8, hc8⟩ := HLk.out w6 (HB6.out.block _ hMl); obtain ⟨c0, c2, c3⟩ := HCc.out w6 (hb6.block _ hbl) 0 (by omega); obtain ⟨-, z2, -⟩ := HCc.out w8 ((hc8.block b (Nat.lt_of_lt_of_le hbl hb6.size) (by simpa using hbn)).trans (hb6.block _ hbl)) 0 (by omega); (rw [HXe.out] at c2 z2); (simp only [Nat.zero_mul, Nat.zero_add] at c0 c2 c3 z2); have HM8 := hid hm8; have HX8 := hid ((HI.out.1.later HB6.out).chg hc8); have HB8 : Hid (Below w.heap.size w w8) := hid ((HI.out.2.2.trans (HB6.out.mono HI.out.2.2.size)).trans (hc8.below (fun k hk => by simp at hk; omega) (Nat.le_trans HI.out.2.2.size HB6.out.size))); have HA8 := hid (HAm.out w8 HX8.out HB8.out.size); clear hb6 hm8 hc8)
                  | (go_at_call 13; (with_reducible_and_instances (refine HA8.out.mono ?_)); rintro r w9 ⟨rfl, h9, hb9, hk9⟩; have HI9 : Hid (BOx w.heap.size [w3.heap.size] w9 g (mE _ (pl.erase x)) ∧ MetP w9 w3.heap.size (50 + (j + 1)) (pl.erase x) ∧ Below w.heap.size w w9) := ⟨h9, HM8.out.keep hk9, HB8.out.trans hb9⟩; clear h9 hb9 hk9)
                  | (go_at_call 12; (with_reducible_and_instances (refine (num16_any _ _).mono ?_)); rintro r w99 ⟨rfl, hw99⟩; obtain rfl := hw99.symm))
                exact ⟨⟨j + 1, ln - 1, pl.erase x, (by rw [show ((ln - 1 : Nat) : Int) = (ln : Int) - 1 by omega]), by go_num, by omega, HQ.out.2, HQ.out.1, HI9⟩, by simp [intOf]; omega⟩
end Go.Proofs.Ytkheifdigjajeaa
