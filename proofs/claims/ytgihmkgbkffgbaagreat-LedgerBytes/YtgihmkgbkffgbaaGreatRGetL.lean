/- GetEntry of the document's package (layer 13), whatever the bytes (by genrgetl13.py and regs.py). -/
import Derived.Test.YtgihmkgbkffgbaaGreatTk
import Derived.Test.YtgihmkgbkffgbaaGreatPZGt
import Derived.Test.YtgihmkgbkffgbaaGreatPZRN
import Derived.Test.YtgihmkgbkffgbaaGreatPZRD
import Derived.Test.YtgihmkgbkffgbaaGreatPZRget
import Derived.Deep.RegionLaw
import Derived.Deep.DeepCutAuto
namespace Go.Proofs.YtgihmkgbkffgbaaGreat
open Go.RowKit
variable {w w' : World}

abbrev REt : TypeId := 31
abbrev BTy : TypeId := 25
theorem retL_size (kd nn k p e q : Int) (tx : Bool) (ad : Option Addr) (len cap : Nat) : (Tryz.prog.info? REt).map (·.size) = some (etL kd nn k p e q tx ad len cap).length := by
  show _ = some 8
  kernel_rfl
theorem store_rent {ops : Array Oper} {rest : List Oper} {o : Oper} {a : Act} {Q : Exit → Act → World → Prop} {g : Nat} {cur : Array Value} (kd nn k p e q : Int) (tx : Bool) (ad : Option Addr) (len cap : Nat) (hgd : o.guard = none) (x y : Operand) (ho : o.op = .store REt x y) (hx : a.eval x = .pointer (some ⟨g, 0, none⟩)) (hy : a.eval y = .agg #[.int .i64 kd, .int .i64 nn, .int .i64 k, .int .i64 p, .int .i64 e, .int .i64 q, .bool tx, .slice ad len cap])
    (hg : w.heap[g]? = some (.cells cur REt (0, 0))) (hfit : cur.size = 8) (h : ∀ w', Blk w' g #[.int .i64 kd, .int .i64 nn, .int .i64 k, .int .i64 p, .int .i64 e, .int .i64 q, .bool tx, .slice ad len cap] REt → Chg [g] w w' → wpList Tryz.prog ops Q rest (a.put o.dst undef) w') : wpList Tryz.prog ops Q (o :: rest) a w := by
  have hy' : a.eval y = .agg (etL kd nn k p e q tx ad len cap).toArray := hy
  refine store_wide hgd REt x y ho (etL kd nn k p e q tx ad len cap) (retL_size kd nn k p e q tx ad len cap) g 0 hx hy' REt cur hg (by show 0 + 8 ≤ _; omega) (etL_one kd nn k p e q tx ad len cap) ?_
  have e2 : (cur.toList.take 0 ++ etL kd nn k p e q tx ad len cap ++ cur.toList.drop (0 + (etL kd nn k p e q tx ad len cap).length)) = etL kd nn k p e q tx ad len cap := by rw [List.drop_of_length_le (by show cur.toList.length ≤ 0 + 8; simp; omega)]; simp
  rw [e2]
  refine h _ (setRow_heap _ _ _ _ _ _ hg) ⟨rfl, rfl, rfl, by simp [World.setRow], fun k _ hn => setRow_other w g k _ (by intro e; exact hn (by simp [e]))⟩
theorem store_rbat {ops : Array Oper} {rest : List Oper} {o : Oper} {a : Act} {Q : Exit → Act → World → Prop} {g : Nat} (kd nn k p e q : Int) (tx : Bool) (ad : Option Addr) (len cap : Nat) (hgd : o.guard = none) (x y : Operand) (ho : o.op = .store BTy x y) (hx : a.eval x = .pointer (some ⟨g, 2, none⟩)) (hy : a.eval y = .agg #[.int .i64 k, .int .i64 p, .int .i64 e, .int .i64 q, .bool tx, .slice ad len cap])
    (hg : Blk w g #[.int .i64 kd, .int .i64 nn, .int .i64 0, .int .i64 0, .int .i64 0, .int .i64 0, .bool false, .slice none 0 0] REt) (h : ∀ w', Blk w' g #[.int .i64 kd, .int .i64 nn, .int .i64 k, .int .i64 p, .int .i64 e, .int .i64 q, .bool tx, .slice ad len cap] REt → Chg [g] w w' → wpList Tryz.prog ops Q rest (a.put o.dst undef) w') : wpList Tryz.prog ops Q (o :: rest) a w := by
  refine store_wide hgd BTy x y ho [.int .i64 k, .int .i64 p, .int .i64 e, .int .i64 q, .bool tx, .slice ad len cap] (by show _ = some 6; kernel_rfl) g 2 hx hy REt _ hg (by show 2 + 6 ≤ 8; omega) (by
    intro v hv
    simp only [List.mem_cons, List.not_mem_nil, or_false] at hv
    rcases hv with h | h | h | h | h | h
    all_goals (subst h; rfl)) ?_
  refine h _ (setRow_heap _ _ _ _ _ _ hg) ⟨rfl, rfl, rfl, by simp [World.setRow], fun k _ hn => setRow_other w g k _ (by intro e; exact hn (by simp [e]))⟩
theorem store_ybat {ops : Array Oper} {rest : List Oper} {o : Oper} {a : Act} {Q : Exit → Act → World → Prop} {g : Nat} (k p e q : Int) (tx : Bool) (ad : Option Addr) (len cap : Nat) (hgd : o.guard = none) (x y : Operand) (ho : o.op = .store BTy x y) (hx : a.eval x = .pointer (some ⟨g, 0, none⟩)) (hy : a.eval y = .agg #[.int .i64 k, .int .i64 p, .int .i64 e, .int .i64 q, .bool tx, .slice ad len cap])
    (hg : Blk w g #[.int .i64 0, .int .i64 0, .int .i64 0, .int .i64 0, .bool false, .slice none 0 0] BTy) (h : ∀ w', Blk w' g #[.int .i64 k, .int .i64 p, .int .i64 e, .int .i64 q, .bool tx, .slice ad len cap] BTy → Chg [g] w w' → wpList Tryz.prog ops Q rest (a.put o.dst undef) w') : wpList Tryz.prog ops Q (o :: rest) a w := by
  refine store_wide hgd BTy x y ho [.int .i64 k, .int .i64 p, .int .i64 e, .int .i64 q, .bool tx, .slice ad len cap] (by show _ = some 6; kernel_rfl) g 0 hx hy BTy _ hg (by show 0 + 6 ≤ 6; omega) (by
    intro v hv
    simp only [List.mem_cons, List.not_mem_nil, or_false] at hv
    rcases hv with h | h | h | h | h | h
    all_goals (subst h; rfl)) ?_
  refine h _ (setRow_heap _ _ _ _ _ _ hg) ⟨rfl, rfl, rfl, by simp [World.setRow], fun k _ hn => setRow_other w g k _ (by intro e; exact hn (by simp [e]))⟩
theorem ret_rent {fn : Func} {p u : Tmp} (h : fn.results = #[.cell p REt, .tmp u]) (tmps : Array Value) (w : World) (g : Nat) (kd nn k q e s : Int) (t : Bool) (a : Option Addr) (n c : Nat)
    (hp : tmps.getD p undef = .pointer (some ⟨g, 0, none⟩)) (hg : Blk w g #[.int .i64 kd, .int .i64 nn, .int .i64 k, .int .i64 q, .int .i64 e, .int .i64 s, .bool t, .slice a n c] REt) :
    (results fn tmps).run Tryz.prog w = .ok (.tuple #[.agg #[.int .i64 kd, .int .i64 nn, .int .i64 k, .int .i64 q, .int .i64 e, .int .i64 s, .bool t, .slice a n c], tmps.getD u undef]) w := by
  rw [results_cell_tmp h, hp]
  have hl := run_loadVar_row (P := Tryz.prog) w g REt REt _ (0, 0) _ hg Tryz.underlying31 rfl (by kernel_rfl)
  simp only [asAddr, Sem.run_pure, Result.andThen_ok]
  rw [hl]
  rfl
theorem bytes_beqL (a b : ByteArray) : (a == b) = true ↔ a = b := by
  obtain ⟨⟨x⟩⟩ := a
  obtain ⟨⟨y⟩⟩ := b
  show ((⟨x⟩ : Array UInt8) == ⟨y⟩) = true ↔ _
  simp
theorem bstr_injL {l m : List Nat} (hl : ∀ x ∈ l, x < 256) (hm : ∀ x ∈ m, x < 256) : bstr l = bstr m ↔ l = m := ⟨fun e => by rw [← sbytes_bstr l hl, ← sbytes_bstr m hm, e], fun e => by rw [e]⟩
theorem bstr_beqL1 {l m : List Nat} (hl : ∀ x ∈ l, x < 256) (hm : ∀ x ∈ m, x < 256) (q : Bool) (h : q = true ↔ l = m) : (bstr l == bstr m) = q := by
  rw [Bool.eq_iff_iff, bytes_beqL, h]
  exact bstr_injL hl hm
theorem bstr_beqL {l m : List Nat} (hl : ∀ x ∈ l, x < 256) (hm : ∀ x ∈ m, x < 256) (q : Bool) (h : q = true ↔ l = m) : ((bstr l).toList == (bstr m).toList) = q := by
  rw [← beq_toListBytes]
  exact bstr_beqL1 hl hm q h
theorem tell13_lt (n : Int) : ∀ x ∈ tell13 n, x < 256 := by
  intro x hx
  unfold tell13 at hx
  split at hx
  · simp at hx; omega
  · exact spellN_lt _ _ x hx
theorem valN_injL : ∀ {a b : List Nat}, a.length = b.length → (∀ x ∈ a, x < 256) → (∀ x ∈ b, x < 256) → valN a = valN b → a = b
  | [], [], _, _, _, _ => rfl
  | [], _ :: _, h, _, _, _ => by simp at h
  | _ :: _, [], h, _, _, _ => by simp at h
  | x :: a, y :: b, h, ha, hb, hv => by
    simp only [valN] at hv
    have h1 := ha x (by simp)
    have h2 := hb y (by simp)
    have e1 : x = y := by omega
    have e2 : valN a = valN b := by omega
    rw [e1, valN_injL (by simpa using h) (fun z hz => ha z (by simp [hz])) (fun z hz => hb z (by simp [hz])) e2]
theorem spell_valL (l : List Nat) (n : Nat) (hn : l.length = n) (h : ∀ x ∈ l, x < 256) : spellN (valN l) n = l := by
  subst hn
  refine valN_injL (by rw [spellN_length]) (spellN_lt _ _) h ?_
  rw [valN_spellN, Nat.mod_eq_of_lt (valN_lt l h)]
theorem read13_short {b : List Nat} (h : b.length < 6) : (read13 b).2 ≠ 0 := by
  unfold read13
  rw [if_neg (by rintro rfl; simp at h), getN_end b 0 6 (by omega) (by omega)]
  simp
theorem read13_long {b : List Nat} (h : 6 < b.length) (hne : b ≠ [0, 0, 0, 0, 0, 0, 1]) : (read13 b).2 ≠ 0 := by
  unfold read13
  have hg := getN_ok b 0 6 (by omega) (by omega)
  rw [if_neg hne, show getN b 0 6 = _ from hg]
  dsimp only
  rw [if_pos ⟨rfl, by omega⟩]
  decide
theorem read13_six {b : List Nat} (h : b.length = 6) (hb : ∀ x ∈ b, x < 256) : read13 b = ((valN b : Int), 0) ∧ tell13 (valN b : Int) = b ∧ valN b < 281474976710656 := by
  have hg := getN_ok b 0 6 (by omega) (by omega)
  have e1 : ((b.drop 0).take 6) = b := by rw [List.drop_zero, List.take_of_length_le (by omega)]
  rw [e1] at hg
  have hv := valN_bound b hb (by omega)
  refine ⟨?_, ?_, hv⟩
  · unfold read13
    rw [if_neg (by rintro rfl; simp at h), show getN b 0 6 = _ from hg]
    dsimp only
    rw [if_neg (by rintro ⟨-, h2⟩; rw [h] at h2; exact h2 rfl)]
  · unfold tell13
    rw [if_neg (by omega), Int.toNat_natCast]
    exact spell_valL b 6 h hb
/-- What GetEntry has, once a frame was read. -/
structure GtR (w W0 : World) (uk : Nat) (ub : List Nat) (m1 : Nat) : Prop where
  b0 : Below w.heap.size w W0
  z0 : Blk W0 w.heap.size #[.int .i64 0, .int .i64 0, .int .i64 0, .int .i64 0, .int .i64 0, .int .i64 0, .bool false, .slice none 0 0] REt
  kind : uk < 256
  body : ub.length = m1
  room : m1 ≤ 65536
  lt : ∀ x ∈ ub, x < 256
theorem GtR.fin {w W0 W1 W9 : World} {ub : List Nat} {uk m1 : Nat} (h : GtR w W0 uk ub m1) (h1 : Below W0.heap.size W0 W1) (h9 : Chg [w.heap.size] W1 W9) : Below w.heap.size w W9 := (h.b0.trans (h1.mono h.b0.size)).trans (h9.below (fun g hg => by simp at hg; omega) (by have := h1.size; have := h.b0.size; omega))
set_option maxRecDepth 20000 in
set_option maxHeartbeats 2000000 in
theorem rget_no1 (ad : Option Addr) (len cap : Nat) (l : List Nat) (w W0 : World) (hW0 : w.alloc (.cells #[.int .i64 0, .int .i64 0, .int .i64 0, .int .i64 0, .int .i64 0, .int .i64 0, .bool false, .slice none 0 0] REt) = W0) (uk : Nat) (ue ut : Int) (ub : List Nat) (m1 : Nat) (hI : GtR w W0 uk ub m1) (hU : Calls Tryz.prog 18 #[.slice ad len cap, .int .i64 0] W0 fun e w' => ∃ v, e = .returned (.tuple #[.int .i64 ((uk : Nat) : Int), v, .int .i64 ut, .int .i64 ue]) ∧ Own w' W0.heap.size v ub ∧ Below W0.heap.size W0 w') (hno : ue ≠ 0 ∨ ut ≠ (len : Int)) (hE : getE l = (et0, 22)) : Calls Tryz.prog 6 #[.slice ad len cap] w (GetPost l w) := by
  have HU := hid hU
  have HZ := hid hI.z0
  have HM1 := hid hI.body
  have hku := hI.kind
  have hroom := hI.room
  have HL := hid hI.lt
  have HI := hid hI
  have HE := hid hE
  obtain ⟨kx, hkx⟩ : ∃ kx : Int, (uk : Int) - 15 = kx := ⟨_, rfl⟩
  have hwk : IntKind.i64.wrap ((uk : Int) - 15) = (uk : Int) - 15 := by rw [IntKind.wrap_i64]; omega
  clear hE hU hI
  by_cases he : ue = 0
  · subst he
    have ht : ut ≠ (len : Int) := by rcases hno with h | h; exact absurd rfl h; exact h
    have ht' : (ut == (len : Int)) = false := by simpa using ht
    clear hno
    go_enter Tryz.func6, Tryz.ntmps6
    go_wp2_with (first
      | (go_at_call 18; (with_reducible_and_instances (refine HU.out.mono ?_)); rintro x W1 ⟨v1, rfl, ho1, hb1⟩; obtain ⟨a1, c1, hv1, hq1, hc1, -⟩ := ho1.slice m1 HM1.out; subst hv1; have HQ1 := hid hq1; have HB1 := hid hb1; have HZ1 := hid (HZ.out.later hb1); have lz1 := (HZ.out.later hb1).lt; have HX1 := hid (show Blk (W1.alloc (.cells #[.int .i64 0, .int .i64 0, .int .i64 0, .int .i64 0, .int .i64 0, .int .i64 0, .bool false, .slice none 0 0] REt)) W1.heap.size #[.int .i64 0, .int .i64 0, .int .i64 0, .int .i64 0, .int .i64 0, .int .i64 0, .bool false, .slice none 0 0] REt from heap_alloc_new W1 _); clear ho1 hb1 hq1)
      | (refine store_rent kx 0 0 0 0 0 false none 0 0 rfl (.tmp 8) (.tmp 20) rfl rfl rfl HX1.out rfl ?_; intro W2 hx2 hc2; have HX2 := hid hx2; have HB2 : Hid (Below W1.heap.size W1 W2) := (((Below.refl _ W1).alloc (Nat.le_refl _) _).trans (hc2.below (fun g hg => by simp at hg; omega) (by simp))); have HZ2 := hid (HZ1.out.later HB2.out); have lz2 := (HZ1.out.later HB2.out).lt; have d0 := hx2.cell 0; have lx2 := hx2.lt; simp only [List.getElem?_toArray, List.getElem?_cons_zero] at d0; clear hx2 hc2)
      | (refine store_rent 0 0 0 0 0 0 false none 0 0 rfl (.tmp 2) (.tmp 29) rfl rfl rfl HZ2.out rfl ?_; intro W9 hx9 hc9))
    refine bodyPost_ret (ret_rent Tryz.results6 _ _ w.heap.size 0 0 0 0 0 0 false none 0 0 rfl hx9) rfl (get_bad HE.out ?_)
    exact HI.out.fin (HB1.out.trans (HB2.out.mono HB1.out.size)) hc9
  · have he' : (ue == 0) = false := by simpa using he
    clear hno
    go_enter Tryz.func6, Tryz.ntmps6
    go_wp2_with (first
      | (go_at_call 18; (with_reducible_and_instances (refine HU.out.mono ?_)); rintro x W1 ⟨v1, rfl, ho1, hb1⟩; obtain ⟨a1, c1, hv1, hq1, hc1, -⟩ := ho1.slice m1 HM1.out; subst hv1; have HQ1 := hid hq1; have HB1 := hid hb1; have HZ1 := hid (HZ.out.later hb1); have lz1 := (HZ.out.later hb1).lt; have HX1 := hid (show Blk (W1.alloc (.cells #[.int .i64 0, .int .i64 0, .int .i64 0, .int .i64 0, .int .i64 0, .int .i64 0, .bool false, .slice none 0 0] REt)) W1.heap.size #[.int .i64 0, .int .i64 0, .int .i64 0, .int .i64 0, .int .i64 0, .int .i64 0, .bool false, .slice none 0 0] REt from heap_alloc_new W1 _); clear ho1 hb1 hq1)
      | (refine store_rent kx 0 0 0 0 0 false none 0 0 rfl (.tmp 8) (.tmp 20) rfl rfl rfl HX1.out rfl ?_; intro W2 hx2 hc2; have HX2 := hid hx2; have HB2 : Hid (Below W1.heap.size W1 W2) := (((Below.refl _ W1).alloc (Nat.le_refl _) _).trans (hc2.below (fun g hg => by simp at hg; omega) (by simp))); have HZ2 := hid (HZ1.out.later HB2.out); have lz2 := (HZ1.out.later HB2.out).lt; have d0 := hx2.cell 0; have lx2 := hx2.lt; simp only [List.getElem?_toArray, List.getElem?_cons_zero] at d0; clear hx2 hc2)
      | (refine store_rent 0 0 0 0 0 0 false none 0 0 rfl (.tmp 2) (.tmp 29) rfl rfl rfl HZ2.out rfl ?_; intro W9 hx9 hc9))
    refine bodyPost_ret (ret_rent Tryz.results6 _ _ w.heap.size 0 0 0 0 0 0 false none 0 0 rfl hx9) rfl (get_bad HE.out ?_)
    exact HI.out.fin (HB1.out.trans (HB2.out.mono HB1.out.size)) hc9
set_option maxRecDepth 20000 in
set_option maxHeartbeats 2000000 in
theorem rget_other (ad : Option Addr) (len cap : Nat) (l : List Nat) (w W0 : World) (hW0 : w.alloc (.cells #[.int .i64 0, .int .i64 0, .int .i64 0, .int .i64 0, .int .i64 0, .int .i64 0, .bool false, .slice none 0 0] REt) = W0) (uk : Nat) (ub : List Nat) (m1 : Nat) (hI : GtR w W0 uk ub m1) (hU : Calls Tryz.prog 18 #[.slice ad len cap, .int .i64 0] W0 fun e w' => ∃ v, e = .returned (.tuple #[.int .i64 ((uk : Nat) : Int), v, .int .i64 (len : Int), .int .i64 0]) ∧ Own w' W0.heap.size v ub ∧ Below W0.heap.size W0 w') (hk : uk ≠ 16 ∧ uk ≠ 17 ∧ uk ≠ 18) (hE : getE l = (et0, 22)) : Calls Tryz.prog 6 #[.slice ad len cap] w (GetPost l w) := by
  have HU := hid hU
  have HZ := hid hI.z0
  have HM1 := hid hI.body
  have hku := hI.kind
  have hroom := hI.room
  have HL := hid hI.lt
  have HI := hid hI
  have HE := hid hE
  obtain ⟨kx, hkx⟩ : ∃ kx : Int, (uk : Int) - 15 = kx := ⟨_, rfl⟩
  have hwk : IntKind.i64.wrap ((uk : Int) - 15) = (uk : Int) - 15 := by rw [IntKind.wrap_i64]; omega
  have k1 : (kx == 1) = false := by simp; omega
  have k2 : (kx == 2) = false := by simp; omega
  have k3 : (kx == 3) = false := by simp; omega
  clear hE hU hI hk
  go_enter Tryz.func6, Tryz.ntmps6
  go_wp2_with (first
    | (go_at_call 18; (with_reducible_and_instances (refine HU.out.mono ?_)); rintro x W1 ⟨v1, rfl, ho1, hb1⟩; obtain ⟨a1, c1, hv1, hq1, hc1, -⟩ := ho1.slice m1 HM1.out; subst hv1; have HQ1 := hid hq1; have HB1 := hid hb1; have HZ1 := hid (HZ.out.later hb1); have lz1 := (HZ.out.later hb1).lt; have HX1 := hid (show Blk (W1.alloc (.cells #[.int .i64 0, .int .i64 0, .int .i64 0, .int .i64 0, .int .i64 0, .int .i64 0, .bool false, .slice none 0 0] REt)) W1.heap.size #[.int .i64 0, .int .i64 0, .int .i64 0, .int .i64 0, .int .i64 0, .int .i64 0, .bool false, .slice none 0 0] REt from heap_alloc_new W1 _); clear ho1 hb1 hq1)
    | (refine store_rent kx 0 0 0 0 0 false none 0 0 rfl (.tmp 8) (.tmp 20) rfl rfl rfl HX1.out rfl ?_; intro W2 hx2 hc2; have HX2 := hid hx2; have HB2 : Hid (Below W1.heap.size W1 W2) := (((Below.refl _ W1).alloc (Nat.le_refl _) _).trans (hc2.below (fun g hg => by simp at hg; omega) (by simp))); have HZ2 := hid (HZ1.out.later HB2.out); have lz2 := (HZ1.out.later HB2.out).lt; have d0 := hx2.cell 0; have lx2 := hx2.lt; simp only [List.getElem?_toArray, List.getElem?_cons_zero] at d0; clear hx2 hc2)
    | (refine store_rent 0 0 0 0 0 0 false none 0 0 rfl (.tmp 2) (.tmp 32) rfl rfl rfl HZ2.out rfl ?_; intro W9 hx9 hc9))
  refine bodyPost_ret (ret_rent Tryz.results6 _ _ w.heap.size 0 0 0 0 0 0 false none 0 0 rfl hx9) rfl (get_bad HE.out ?_)
  exact HI.out.fin (HB1.out.trans (HB2.out.mono HB1.out.size)) hc9
theorem barg_rent {W W' : World} {b : Bat} {ad : Option Addr} {n c B : Nat} {kd nn k p e q : Int} {tx : Bool} {a' : Option Addr} {n' c' : Nat} (h : BArg W b ad n c) (hb : Blk W B #[.int .i64 kd, .int .i64 nn, .int .i64 k, .int .i64 p, .int .i64 e, .int .i64 q, .bool tx, .slice a' n' c'] REt) (hc : Chg [B] W W') : BArg W' b ad n c := by
  refine ⟨h.1, h.2, h.3, h.4, ?_, h.6⟩
  rcases h.5 with h5 | ⟨x, off, e1, hx, hcl⟩
  · exact Or.inl h5
  · by_cases h0 : b.recs = []
    · exact Or.inl h0
    · have hne : x ≠ B := by
        rintro rfl
        have h1 := (hcl 0 (List.length_pos_iff.2 h0)).1
        rw [hb.cell] at h1
        rw [List.getElem?_toArray] at h1
        have hi := List.mem_of_getElem? h1
        simp at hi
      refine Or.inr ⟨x, off, e1, Nat.lt_of_lt_of_le hx hc.size, fun i hi => ?_⟩
      have hk := hc.block x hx (by simpa using hne)
      have := hcl i hi
      simp only [World.cell?, hk] at this ⊢
      exact this
set_option maxRecDepth 20000 in
set_option maxHeartbeats 2000000 in
theorem rget_batch (ad : Option Addr) (len cap : Nat) (l : List Nat) (w W0 : World) (hW0 : w.alloc (.cells #[.int .i64 0, .int .i64 0, .int .i64 0, .int .i64 0, .int .i64 0, .int .i64 0, .bool false, .slice none 0 0] REt) = W0) (ub : List Nat) (m1 : Nat) (hI : GtR w W0 16 ub m1) (hU : Calls Tryz.prog 18 #[.slice ad len cap, .int .i64 0] W0 fun e w' => ∃ v, e = .returned (.tuple #[.int .i64 ((16 : Nat) : Int), v, .int .i64 (len : Int), .int .i64 0]) ∧ Own w' W0.heap.size v ub ∧ Below W0.heap.size W0 w') (hE : getE l = if (decodeN ub).2 ≠ 0 then (et0, 22) else (⟨1, 0, (decodeN ub).1⟩, 0)) : Calls Tryz.prog 6 #[.slice ad len cap] w (GetPost l w) := by
  have HU := hid hU
  have HZ := hid hI.z0
  have HM1 := hid hI.body
  have hku := hI.kind
  have hroom := hI.room
  have HL := hid hI.lt
  have HI := hid hI
  obtain ⟨de, hde⟩ : ∃ de, (decodeN ub).2 = de := ⟨_, rfl⟩
  rw [hde] at hE
  have HDe := hid hde
  clear hU hI hde
  by_cases h0 : de = 0
  · subst h0
    have HE : Hid (getE l = (⟨1, 0, (decodeN ub).1⟩, 0)) := by rw [hE, if_neg (by simp)]; exact rfl
    clear hE
    go_enter Tryz.func6, Tryz.ntmps6
    go_wp2_with (first
      | (go_at_call 18; (with_reducible_and_instances (refine HU.out.mono ?_)); rintro x W1 ⟨v1, rfl, ho1, hb1⟩; obtain ⟨a1, c1, hv1, hq1, hc1, -⟩ := ho1.slice m1 HM1.out; subst hv1; have HQ1 := hid hq1; have HB1 := hid hb1; have HZ1 := hid (HZ.out.later hb1); have lz1 := (HZ.out.later hb1).lt; have HX1 := hid (show Blk (W1.alloc (.cells #[.int .i64 0, .int .i64 0, .int .i64 0, .int .i64 0, .int .i64 0, .int .i64 0, .bool false, .slice none 0 0] REt)) W1.heap.size #[.int .i64 0, .int .i64 0, .int .i64 0, .int .i64 0, .int .i64 0, .int .i64 0, .bool false, .slice none 0 0] REt from heap_alloc_new W1 _); clear ho1 hb1 hq1)
      | (refine store_rent 1 0 0 0 0 0 false none 0 0 rfl (.tmp 8) (.tmp 20) rfl rfl rfl HX1.out rfl ?_; intro W2 hx2 hc2; have HX2 := hid hx2; have HB2 : Hid (Below W1.heap.size W1 W2) := (((Below.refl _ W1).alloc (Nat.le_refl _) _).trans (hc2.below (fun g hg => by simp at hg; omega) (by simp))); have HZ2 := hid (HZ1.out.later HB2.out); have lz2 := (HZ1.out.later HB2.out).lt; have d0 := hx2.cell 0; have lx2 := hx2.lt; simp only [List.getElem?_toArray, List.getElem?_cons_zero] at d0; have HDc := hid (refDecode_any a1 m1 c1 ub W2 (HQ1.out.later HB2.out) hc1 (by omega)); unfold DecPost at HDc; rw [HDe.out] at HDc; clear hx2 hc2)
      | (go_at_call 19; (with_reducible_and_instances (refine HDc.out.mono ?_)); rintro x W3 ⟨kk, pp, ee, ss, tt, rs, ab, nb, cb, hx, hbt, hba, hb3⟩; subst hx; have HX3 := hid (HX2.out.later hb3); have HZ3 := hid (HZ2.out.later hb3); have HBt := hid hbt; have HBa := hid hba; have HB3 := hid (HB1.out.trans ((HB2.out.trans (hb3.mono HB2.out.size)).mono HB1.out.size)); have HS3 := hid hb3.size; have HY3 := hid (show Blk (W3.alloc (.cells #[.int .i64 0, .int .i64 0, .int .i64 0, .int .i64 0, .bool false, .slice none 0 0] BTy)) W3.heap.size #[.int .i64 0, .int .i64 0, .int .i64 0, .int .i64 0, .bool false, .slice none 0 0] BTy from heap_alloc_new W3 _); clear hbt hba hb3)
      | (refine store_ybat kk pp ee ss tt ab nb cb rfl (.tmp 9) (.tmp 38) rfl rfl rfl HY3.out ?_; intro W4 hy4 hc4; have hb34 : Below W3.heap.size W3 W4 := (((Below.refl _ W3).alloc (Nat.le_refl _) _).trans (hc4.below (fun g hg => by simp at hg; omega) (by simp))); have HX4 := hid (HX3.out.later hb34); have HZ4 := hid (HZ3.out.later hb34); have HBa4 := hid (HBa.out.later hb34); have HB4 := hid (HB3.out.trans (hb34.mono HB3.out.size)); have y0 := hy4.cell 0; have y1 := hy4.cell 1; have y2 := hy4.cell 2; have y3 := hy4.cell 3; have y4 := hy4.cell 4; have y5 := hy4.cell 5; simp only [List.getElem?_toArray, List.getElem?_cons_zero, List.getElem?_cons_succ] at y0 y1 y2 y3 y4 y5; have ly4 := hy4.lt; have lx4 := HX4.out.lt; have lz4 := HZ4.out.lt; clear hy4 hc4 hb34)
      | (refine store_rbat 1 0 kk pp ee ss tt ab nb cb rfl (.tmp 44) (.tmp 43) rfl rfl rfl HX4.out ?_; intro W5 hx5 hc5; have hz5 := HZ4.out.chg hc5 (by simp; omega); have HZ5 := hid hz5; have HB5 : Hid (Below W0.heap.size W0 W5) := (HB4.out.trans (hc5.below (fun g hg => by simp at hg; rw [hg]; exact HB1.out.size) HB4.out.size)); have HBa5 := hid (barg_rent HBa4.out HX4.out hc5); have m0 := hx5.cell 0; have m1' := hx5.cell 1; have m2 := hx5.cell 2; have m3 := hx5.cell 3; have m4 := hx5.cell 4; have m5 := hx5.cell 5; have m6 := hx5.cell 6; have m7 := hx5.cell 7; simp only [List.getElem?_toArray, List.getElem?_cons_zero, List.getElem?_cons_succ] at m0 m1' m2 m3 m4 m5 m6 m7; have lx5 := hx5.lt; have lz5 := hz5.lt; clear hx5 hz5 hc5)
      | (refine store_rent 1 0 kk pp ee ss tt ab nb cb rfl (.tmp 2) (.tmp 71) rfl rfl rfl HZ5.out rfl ?_; intro W9 hx9 hc9))
    refine bodyPost_ret (ret_rent Tryz.results6 _ _ w.heap.size 1 0 kk pp ee ss tt ab nb cb rfl hx9) rfl ⟨1, 0, kk, pp, ee, ss, tt, rs, ab, nb, cb, by rw [HE.out]; rfl, by rw [HE.out, ← HBt.out], barg_rent HBa5.out HZ5.out hc9, HI.out.fin HB5.out hc9⟩
  · have HE : Hid (getE l = (et0, 22)) := by rw [hE, if_pos h0]; exact rfl
    have h0' : (de == 0) = false := by simpa using h0
    clear hE
    go_enter Tryz.func6, Tryz.ntmps6
    go_wp2_with (first
      | (go_at_call 18; (with_reducible_and_instances (refine HU.out.mono ?_)); rintro x W1 ⟨v1, rfl, ho1, hb1⟩; obtain ⟨a1, c1, hv1, hq1, hc1, -⟩ := ho1.slice m1 HM1.out; subst hv1; have HQ1 := hid hq1; have HB1 := hid hb1; have HZ1 := hid (HZ.out.later hb1); have lz1 := (HZ.out.later hb1).lt; have HX1 := hid (show Blk (W1.alloc (.cells #[.int .i64 0, .int .i64 0, .int .i64 0, .int .i64 0, .int .i64 0, .int .i64 0, .bool false, .slice none 0 0] REt)) W1.heap.size #[.int .i64 0, .int .i64 0, .int .i64 0, .int .i64 0, .int .i64 0, .int .i64 0, .bool false, .slice none 0 0] REt from heap_alloc_new W1 _); clear ho1 hb1 hq1)
      | (refine store_rent 1 0 0 0 0 0 false none 0 0 rfl (.tmp 8) (.tmp 20) rfl rfl rfl HX1.out rfl ?_; intro W2 hx2 hc2; have HX2 := hid hx2; have HB2 : Hid (Below W1.heap.size W1 W2) := (((Below.refl _ W1).alloc (Nat.le_refl _) _).trans (hc2.below (fun g hg => by simp at hg; omega) (by simp))); have HZ2 := hid (HZ1.out.later HB2.out); have lz2 := (HZ1.out.later HB2.out).lt; have d0 := hx2.cell 0; have lx2 := hx2.lt; simp only [List.getElem?_toArray, List.getElem?_cons_zero] at d0; have HDc := hid (refDecode_any a1 m1 c1 ub W2 (HQ1.out.later HB2.out) hc1 (by omega)); unfold DecPost at HDc; rw [HDe.out] at HDc; clear hx2 hc2)
      | (go_at_call 19; (with_reducible_and_instances (refine HDc.out.mono ?_)); rintro x W3 ⟨kk, pp, ee, ss, tt, rs, ab, nb, cb, hx, hbt, hba, hb3⟩; subst hx; have HX3 := hid (HX2.out.later hb3); have HZ3 := hid (HZ2.out.later hb3); have HBt := hid hbt; have HBa := hid hba; have HB3 := hid (HB1.out.trans ((HB2.out.trans (hb3.mono HB2.out.size)).mono HB1.out.size)); have HS3 := hid hb3.size; have HY3 := hid (show Blk (W3.alloc (.cells #[.int .i64 0, .int .i64 0, .int .i64 0, .int .i64 0, .bool false, .slice none 0 0] BTy)) W3.heap.size #[.int .i64 0, .int .i64 0, .int .i64 0, .int .i64 0, .bool false, .slice none 0 0] BTy from heap_alloc_new W3 _); clear hbt hba hb3)
      | (refine store_ybat kk pp ee ss tt ab nb cb rfl (.tmp 9) (.tmp 38) rfl rfl rfl HY3.out ?_; intro W4 hy4 hc4; have hb34 : Below W3.heap.size W3 W4 := (((Below.refl _ W3).alloc (Nat.le_refl _) _).trans (hc4.below (fun g hg => by simp at hg; omega) (by simp))); have HX4 := hid (HX3.out.later hb34); have HZ4 := hid (HZ3.out.later hb34); have HBa4 := hid (HBa.out.later hb34); have HB4 := hid (HB3.out.trans (hb34.mono HB3.out.size)); have y0 := hy4.cell 0; have y1 := hy4.cell 1; have y2 := hy4.cell 2; have y3 := hy4.cell 3; have y4 := hy4.cell 4; have y5 := hy4.cell 5; simp only [List.getElem?_toArray, List.getElem?_cons_zero, List.getElem?_cons_succ] at y0 y1 y2 y3 y4 y5; have ly4 := hy4.lt; have lx4 := HX4.out.lt; have lz4 := HZ4.out.lt; clear hy4 hc4 hb34)
      | (refine store_rent 0 0 0 0 0 0 false none 0 0 rfl (.tmp 2) (.tmp 42) rfl rfl rfl HZ4.out rfl ?_; intro W9 hx9 hc9))
    refine bodyPost_ret (ret_rent Tryz.results6 _ _ w.heap.size 0 0 0 0 0 0 false none 0 0 rfl hx9) rfl (get_bad HE.out ?_)
    exact HI.out.fin HB4.out hc9
set_option maxRecDepth 20000 in
set_option maxHeartbeats 2000000 in
theorem rget_retain (ad : Option Addr) (len cap : Nat) (l : List Nat) (w W0 : World) (hW0 : w.alloc (.cells #[.int .i64 0, .int .i64 0, .int .i64 0, .int .i64 0, .int .i64 0, .int .i64 0, .bool false, .slice none 0 0] REt) = W0) (ub : List Nat) (m1 : Nat) (hI : GtR w W0 17 ub m1) (hU : Calls Tryz.prog 18 #[.slice ad len cap, .int .i64 0] W0 fun e w' => ∃ v, e = .returned (.tuple #[.int .i64 ((17 : Nat) : Int), v, .int .i64 (len : Int), .int .i64 0]) ∧ Own w' W0.heap.size v ub ∧ Below W0.heap.size W0 w') (hE : getE l = if (read13 ub).2 ≠ 0 then (et0, 22) else (⟨2, (read13 ub).1, bat0⟩, 0)) : Calls Tryz.prog 6 #[.slice ad len cap] w (GetPost l w) := by
  have HU := hid hU
  have HZ := hid hI.z0
  have HM1 := hid hI.body
  have hku := hI.kind
  have hroom := hI.room
  have HL := hid hI.lt
  have HI := hid hI
  clear hU hI
  by_cases h6 : m1 < 6
  · have HE : Hid (getE l = (et0, 22)) := by rw [hE, if_pos (read13_short (by rw [HM1.out]; exact h6))]; exact rfl
    have hd6 : decide ((m1 : Int) < 6) = true := decide_eq_true (by omega)
    clear hE
    go_enter Tryz.func6, Tryz.ntmps6
    go_wp2_with (first
      | (go_at_call 18; (with_reducible_and_instances (refine HU.out.mono ?_)); rintro x W1 ⟨v1, rfl, ho1, hb1⟩; obtain ⟨a1, c1, hv1, hq1, hc1, -⟩ := ho1.slice m1 HM1.out; subst hv1; have HQ1 := hid hq1; have HB1 := hid hb1; have HZ1 := hid (HZ.out.later hb1); have lz1 := (HZ.out.later hb1).lt; have HX1 := hid (show Blk (W1.alloc (.cells #[.int .i64 0, .int .i64 0, .int .i64 0, .int .i64 0, .int .i64 0, .int .i64 0, .bool false, .slice none 0 0] REt)) W1.heap.size #[.int .i64 0, .int .i64 0, .int .i64 0, .int .i64 0, .int .i64 0, .int .i64 0, .bool false, .slice none 0 0] REt from heap_alloc_new W1 _); clear ho1 hb1 hq1)
      | (refine store_rent 2 0 0 0 0 0 false none 0 0 rfl (.tmp 8) (.tmp 20) rfl rfl rfl HX1.out rfl ?_; intro W2 hx2 hc2; have HX2 := hid hx2; have HB2 : Hid (Below W1.heap.size W1 W2) := (((Below.refl _ W1).alloc (Nat.le_refl _) _).trans (hc2.below (fun g hg => by simp at hg; omega) (by simp))); have HZ2 := hid (HZ1.out.later HB2.out); have lz2 := (HZ1.out.later HB2.out).lt; have d0 := hx2.cell 0; have lx2 := hx2.lt; simp only [List.getElem?_toArray, List.getElem?_cons_zero] at d0; clear hx2 hc2)
      | (refine store_rent 0 0 0 0 0 0 false none 0 0 rfl (.tmp 2) (.tmp 51) rfl rfl rfl HZ2.out rfl ?_; intro W9 hx9 hc9))
    refine bodyPost_ret (ret_rent Tryz.results6 _ _ w.heap.size 0 0 0 0 0 0 false none 0 0 rfl hx9) rfl (get_bad HE.out ?_)
    exact HI.out.fin (HB1.out.trans (HB2.out.mono HB1.out.size)) hc9
  have hd6 : decide ((m1 : Int) < 6) = false := decide_eq_false (by omega)
  obtain ⟨rn, hrn⟩ : ∃ rn, (((valN ((ub.drop 0).take 6) : Nat)) : Int) = rn := ⟨_, rfl⟩
  have HG6 : Hid (getN ub 0 6 = (rn, 6, 0)) := by rw [← hrn]; exact getN_ok ub 0 6 (by omega) (by rw [HM1.out]; omega)
  obtain ⟨bx, hbx⟩ : ∃ bx, bstr ub = bx := ⟨_, rfl⟩
  have HBx := hid hbx
  by_cases h7 : 6 < m1
  · have hd7 : decide (6 < (m1 : Int)) = true := decide_eq_true (by omega)
    have hd7' : decide ((6 : Int) < (m1 : Int)) = true := decide_eq_true (by omega)
    go_enter Tryz.func6, Tryz.ntmps6
    go_upto_region 17 with (first
      | (go_at_call 18; (with_reducible_and_instances (refine HU.out.mono ?_)); rintro x W1 ⟨v1, rfl, ho1, hb1⟩; obtain ⟨a1, c1, hv1, hq1, hc1, -⟩ := ho1.slice m1 HM1.out; subst hv1; have HQ1 := hid hq1; have HB1 := hid hb1; have HZ1 := hid (HZ.out.later hb1); have lz1 := (HZ.out.later hb1).lt; have HX1 := hid (show Blk (W1.alloc (.cells #[.int .i64 0, .int .i64 0, .int .i64 0, .int .i64 0, .int .i64 0, .int .i64 0, .bool false, .slice none 0 0] REt)) W1.heap.size #[.int .i64 0, .int .i64 0, .int .i64 0, .int .i64 0, .int .i64 0, .int .i64 0, .bool false, .slice none 0 0] REt from heap_alloc_new W1 _); clear ho1 hb1 hq1)
      | (refine store_rent 2 0 0 0 0 0 false none 0 0 rfl (.tmp 8) (.tmp 20) rfl rfl rfl HX1.out rfl ?_; intro W2 hx2 hc2; have HX2 := hid hx2; have HB2 : Hid (Below W1.heap.size W1 W2) := (((Below.refl _ W1).alloc (Nat.le_refl _) _).trans (hc2.below (fun g hg => by simp at hg; omega) (by simp))); have HZ2 := hid (HZ1.out.later HB2.out); have lz2 := (HZ1.out.later HB2.out).lt; have d0 := hx2.cell 0; have d1 := hx2.cell 1; have lx2 := hx2.lt; simp only [List.getElem?_toArray, List.getElem?_cons_zero, List.getElem?_cons_succ] at d0 d1; have f1 := hx2.free 1; have HGe := hid (refGet_any a1 m1 c1 ub 0 6 W2 (HQ1.out.later HB2.out) (by omega) (by omega)); rw [HG6.out] at HGe; dsimp only at HGe; have HQ2 := hid (HQ1.out.later HB2.out); clear hx2 hc2)
      | (go_at_call 20; (with_reducible_and_instances (refine HGe.out.mono ?_)); rintro r w9 ⟨rfl, hw9⟩; obtain rfl := hw9.symm))
    have hs1 := HB1.out.size
    have HX3 : Hid (Blk (W2.setCell ⟨W1.heap.size, 1, none⟩ (.int .i64 rn)) W1.heap.size #[.int .i64 2, .int .i64 rn, .int .i64 0, .int .i64 0, .int .i64 0, .int .i64 0, .bool false, .slice none 0 0] REt) := hid (HX2.out.set 1 (.int .i64 rn))
    have HC3 : Hid (Chg [W1.heap.size] W2 (W2.setCell ⟨W1.heap.size, 1, none⟩ (.int .i64 rn))) := hid ((Chg.refl _ _).set (Or.inl (by simp)) 1 _)
    obtain ⟨W3, hW3⟩ : ∃ q, W2.setCell ⟨W1.heap.size, 1, none⟩ (.int .i64 rn) = q := ⟨_, rfl⟩
    rw [hW3] at HX3 HC3
    (try rw [hW3])
    clear hW3 d0 d1 f1
    have d1 := HX3.out.cell 1
    simp only [List.getElem?_toArray, List.getElem?_cons_zero, List.getElem?_cons_succ] at d1
    have f1 := HX3.out.free 1
    go_upto_region 19 with fail
    have HX4 : Hid (Blk (W3.setCell ⟨W1.heap.size, 1, none⟩ (.int .i64 281474976710656)) W1.heap.size #[.int .i64 2, .int .i64 281474976710656, .int .i64 0, .int .i64 0, .int .i64 0, .int .i64 0, .bool false, .slice none 0 0] REt) := hid (HX3.out.set 1 (.int .i64 281474976710656))
    have HC4 : Hid (Chg [W1.heap.size] W2 (W3.setCell ⟨W1.heap.size, 1, none⟩ (.int .i64 281474976710656))) := hid (HC3.out.set (Or.inl (by simp)) 1 _)
    obtain ⟨W4, hW4⟩ : ∃ q, W3.setCell ⟨W1.heap.size, 1, none⟩ (.int .i64 281474976710656) = q := ⟨_, rfl⟩
    rw [hW4] at HX4 HC4
    (try rw [hW4])
    clear hW4 d1 f1 HX3 HC3
    have HB4 : Hid (Below W0.heap.size W0 W4) := hid (HB1.out.trans ((HB2.out.trans (HC4.out.below (fun k hk => by simp at hk; omega) HB2.out.size)).mono HB1.out.size))
    have HB4' : Hid (Below W1.heap.size W1 W4) := hid (HB2.out.trans (HC4.out.below (fun k hk => by simp at hk; omega) HB2.out.size))
    have HZ4 := hid (HZ1.out.later HB4'.out)
    have HS : Hid (∀ W, Below W4.heap.size W4 W → W.cell? ⟨W1.heap.size, 1, none⟩ = some (.int .i64 281474976710656) ∧ (convert 22 9 (.slice a1 m1 c1)).run Tryz.prog W = .ok (.string bx) W) := hid (fun W hW => by
      have hx := HX4.out.later hW
      have hc := conv_any (HQ1.out.later (HB4'.out.trans (hW.mono HB4'.out.size))).2.2 m1 c1 HM1.out
      rw [HBx.out] at hc
      exact ⟨hx.cell 1, hc⟩)
    have lx4 := HX4.out.lt
    have HB9 : Hid (∀ W, Below W4.heap.size W4 W → Below W0.heap.size W0 W) := hid (fun W hW => HB4.out.trans (hW.mono HB4.out.size))
    have HNm := hid (number_any 281474976710656 (by omega) (by omega))
    obtain ⟨R, hR⟩ : ∃ R, tell13 281474976710656 = R := ⟨_, rfl⟩
    rw [hR] at HNm
    have hR8 : ∀ z ∈ R, z < 256 := by rw [← hR]; exact tell13_lt _
    have hR7 : R = [0, 0, 0, 0, 0, 0, 1] := by rw [← hR]; exact if_pos rfl
    obtain ⟨mR, hmR⟩ : ∃ mR, R.length = mR := ⟨_, rfl⟩
    have HmR := hid hmR
    obtain ⟨rs, hrs⟩ : ∃ rs, bstr R = rs := ⟨_, rfl⟩
    have HRs := hid hrs
    by_cases hRl : R = ub
    · have HE : Hid (getE l = (⟨2, 281474976710656, bat0⟩, 0)) := by
        have h7 : read13 ub = (281474976710656, 0) := by rw [← hRl, hR7]; exact if_pos rfl
        rw [hE, h7, if_neg (by simp)]
        exact rfl
      have hrb : bx = rs := by rw [← hrs, hRl]; exact HBx.out.symm
      subst hrb
      clear hE hR hRl hR8 hR7 hrs hmR hbx hrn
      refine wp_region_held_drew (S := fun W => W.cell? ⟨W1.heap.size, 1, none⟩ = some (.int .i64 281474976710656) ∧ (convert 22 9 (.slice a1 m1 c1)).run Tryz.prog W = .ok (.string bx) W) (by kernel_rfl) (HS.out _ (Below.refl _ _).drew) (fun hHeld => ?_)
      refine tk 0 63 hHeld ?_
      try simp only [Act.put, p1, p2, p3]
      refine tk 1 64 hHeld ?_
      try simp only [Act.put, p1, p2, p3]
      refine tk 4 67 hHeld ?_
      try simp only [Act.put, p1, p2, p3]
      refine tk 5 68 hHeld ?_
      try simp only [Act.put, p1, p2, p3]
      refine wpAnyH_ready (rs := [2]) (by kernel_rfl) (by simp) ?_
      refine AllReadyH.cons rfl (fun K hK => ?_) (AllReadyH.nil)
      go_simp
      go_wp2_with (go_at_call 21; refine (HNm.out _).mono ?_; rintro r W5 ⟨v5, rfl, ho5, hb5⟩; obtain ⟨a5, c5, hv5, hq5, -, -⟩ := ho5.slice mR HmR.out; subst hv5; have hcv := conv_any hq5.2.2 mR c5 hq5.1; rw [HRs.out] at hcv; have HB5 := hid (((Below.refl W4.heap.size W4).drew).trans hb5); clear ho5 hb5 hq5)
      refine hK.out _ _ (HS.out _ HB5.out) (fun hHeld => ?_)
      clear hK K
      try simp only [Act.put, p1, p2, p3]
      refine wpAnyH_ready (rs := [3]) (by kernel_rfl) (by simp) ?_
      refine AllReadyH.cons rfl (fun K hK => ?_) (AllReadyH.nil)
      go_simp
      refine hK.out _ _ (HS.out _ HB5.out) (fun hHeld => ?_)
      clear hK K
      try simp only [Act.put, p1, p2, p3]
      refine tk 6 69 hHeld ?_
      try simp only [Act.put, p1, p2, p3]
      refine wpAnyH_done (by kernel_rfl) ?_ _
      clear hHeld
      have hx5 := HX4.out.later HB5.out
      have m0 := hx5.cell 0; have m1' := hx5.cell 1; have m2 := hx5.cell 2; have m3 := hx5.cell 3; have m4 := hx5.cell 4; have m5 := hx5.cell 5; have m6 := hx5.cell 6; have m7 := hx5.cell 7
      simp only [List.getElem?_toArray, List.getElem?_cons_zero, List.getElem?_cons_succ] at m0 m1' m2 m3 m4 m5 m6 m7
      have lx5 := hx5.lt
      have HZ5 := hid (HZ4.out.later HB5.out)
      have lz5 := HZ5.out.lt
      go_wp2_with (refine store_rent 2 281474976710656 0 0 0 0 false none 0 0 rfl (.tmp 2) (.tmp 71) rfl rfl rfl HZ5.out rfl ?_; intro W9 hx9 hc9)
      exact bodyPost_ret (ret_rent Tryz.results6 _ _ w.heap.size 2 281474976710656 0 0 0 0 false none 0 0 rfl hx9) rfl ⟨2, 281474976710656, 0, 0, 0, 0, false, [], none, 0, 0, by rw [HE.out]; rfl, by rw [HE.out]; rfl, bargZ _, HI.out.fin (HB9.out _ HB5.out) hc9⟩
    · have HE : Hid (getE l = (et0, 22)) := by rw [hE, if_pos (read13_long (by rw [HM1.out]; exact h7) (fun e => hRl (by rw [hR7, e])))]; exact rfl
      have hE1 := bstr_beqL1 hR8 HL.out false (by simp [hRl])
      have hE2 := bstr_beqL hR8 HL.out false (by simp [hRl])
      rw [hrs, HBx.out] at hE1 hE2
      clear hE hR hRl hR8 hR7 hrs hmR hbx hrn
      refine wp_region_held_drew (S := fun W => W.cell? ⟨W1.heap.size, 1, none⟩ = some (.int .i64 281474976710656) ∧ (convert 22 9 (.slice a1 m1 c1)).run Tryz.prog W = .ok (.string bx) W) (by kernel_rfl) (HS.out _ (Below.refl _ _).drew) (fun hHeld => ?_)
      refine tk 0 63 hHeld ?_
      try simp only [Act.put, p1, p2, p3]
      refine tk 1 64 hHeld ?_
      try simp only [Act.put, p1, p2, p3]
      refine tk 4 67 hHeld ?_
      try simp only [Act.put, p1, p2, p3]
      refine tk 5 68 hHeld ?_
      try simp only [Act.put, p1, p2, p3]
      refine wpAnyH_ready (rs := [2]) (by kernel_rfl) (by simp) ?_
      refine AllReadyH.cons rfl (fun K hK => ?_) (AllReadyH.nil)
      go_simp
      go_wp2_with (go_at_call 21; refine (HNm.out _).mono ?_; rintro r W5 ⟨v5, rfl, ho5, hb5⟩; obtain ⟨a5, c5, hv5, hq5, -, -⟩ := ho5.slice mR HmR.out; subst hv5; have hcv := conv_any hq5.2.2 mR c5 hq5.1; rw [HRs.out] at hcv; have HB5 := hid (((Below.refl W4.heap.size W4).drew).trans hb5); clear ho5 hb5 hq5)
      refine hK.out _ _ (HS.out _ HB5.out) (fun hHeld => ?_)
      clear hK K
      try simp only [Act.put, p1, p2, p3]
      refine wpAnyH_ready (rs := [3]) (by kernel_rfl) (by simp) ?_
      refine AllReadyH.cons rfl (fun K hK => ?_) (AllReadyH.nil)
      go_simp
      refine hK.out _ _ (HS.out _ HB5.out) (fun hHeld => ?_)
      clear hK K
      try simp only [Act.put, p1, p2, p3]
      refine tk 6 69 hHeld ?_
      try simp only [Act.put, p1, p2, p3]
      refine wpAnyH_done (by kernel_rfl) ?_ _
      clear hHeld
      have HZ5 := hid (HZ4.out.later HB5.out)
      have lz5 := HZ5.out.lt
      go_wp2_with (refine store_rent 0 0 0 0 0 0 false none 0 0 rfl (.tmp 2) (.tmp 70) rfl rfl rfl HZ5.out rfl ?_; intro W9 hx9 hc9)
      refine bodyPost_ret (ret_rent Tryz.results6 _ _ w.heap.size 0 0 0 0 0 0 false none 0 0 rfl hx9) rfl (get_bad HE.out ?_)
      exact HI.out.fin (HB9.out _ HB5.out) hc9
  · have hm6 : m1 = 6 := by omega
    subst hm6
    obtain ⟨hr1, hr2, hr3⟩ := read13_six HM1.out HL.out
    have hrn' : ((valN ub : Nat) : Int) = rn := by rw [← hrn, List.drop_zero, List.take_of_length_le (by rw [HM1.out]; exact Nat.le_refl _)]
    rw [hrn'] at hr1 hr2
    have hrb : 0 ≤ rn ∧ rn ≤ 281474976710656 := by omega
    have HE : Hid (getE l = (⟨2, rn, bat0⟩, 0)) := by rw [hE, hr1, if_neg (by simp)]; exact rfl
    clear hE hrn hrn' hr1 hr3
    go_enter Tryz.func6, Tryz.ntmps6
    go_upto_region 17 with (first
      | (go_at_call 18; (with_reducible_and_instances (refine HU.out.mono ?_)); rintro x W1 ⟨v1, rfl, ho1, hb1⟩; obtain ⟨a1, c1, hv1, hq1, hc1, -⟩ := ho1.slice 6 HM1.out; subst hv1; have HQ1 := hid hq1; have HB1 := hid hb1; have HZ1 := hid (HZ.out.later hb1); have lz1 := (HZ.out.later hb1).lt; have HX1 := hid (show Blk (W1.alloc (.cells #[.int .i64 0, .int .i64 0, .int .i64 0, .int .i64 0, .int .i64 0, .int .i64 0, .bool false, .slice none 0 0] REt)) W1.heap.size #[.int .i64 0, .int .i64 0, .int .i64 0, .int .i64 0, .int .i64 0, .int .i64 0, .bool false, .slice none 0 0] REt from heap_alloc_new W1 _); clear ho1 hb1 hq1)
      | (refine store_rent 2 0 0 0 0 0 false none 0 0 rfl (.tmp 8) (.tmp 20) rfl rfl rfl HX1.out rfl ?_; intro W2 hx2 hc2; have HX2 := hid hx2; have HB2 : Hid (Below W1.heap.size W1 W2) := (((Below.refl _ W1).alloc (Nat.le_refl _) _).trans (hc2.below (fun g hg => by simp at hg; omega) (by simp))); have HZ2 := hid (HZ1.out.later HB2.out); have lz2 := (HZ1.out.later HB2.out).lt; have d0 := hx2.cell 0; have d1 := hx2.cell 1; have lx2 := hx2.lt; simp only [List.getElem?_toArray, List.getElem?_cons_zero, List.getElem?_cons_succ] at d0 d1; have f1 := hx2.free 1; have HGe := hid (refGet_any a1 6 c1 ub 0 6 W2 (HQ1.out.later HB2.out) (by omega) (by omega)); rw [HG6.out] at HGe; dsimp only at HGe; have HQ2 := hid (HQ1.out.later HB2.out); clear hx2 hc2)
      | (go_at_call 20; (with_reducible_and_instances (refine HGe.out.mono ?_)); rintro r w9 ⟨rfl, hw9⟩; obtain rfl := hw9.symm))
    have hs1 := HB1.out.size
    have HX4 : Hid (Blk (W2.setCell ⟨W1.heap.size, 1, none⟩ (.int .i64 rn)) W1.heap.size #[.int .i64 2, .int .i64 rn, .int .i64 0, .int .i64 0, .int .i64 0, .int .i64 0, .bool false, .slice none 0 0] REt) := hid (HX2.out.set 1 (.int .i64 rn))
    have HC4 : Hid (Chg [W1.heap.size] W2 (W2.setCell ⟨W1.heap.size, 1, none⟩ (.int .i64 rn))) := hid ((Chg.refl _ _).set (Or.inl (by simp)) 1 _)
    obtain ⟨W4, hW4⟩ : ∃ q, W2.setCell ⟨W1.heap.size, 1, none⟩ (.int .i64 rn) = q := ⟨_, rfl⟩
    rw [hW4] at HX4 HC4
    (try rw [hW4])
    clear hW4 d0 d1 f1
    go_upto_region 19 with fail
    have HB4 : Hid (Below W0.heap.size W0 W4) := hid (HB1.out.trans ((HB2.out.trans (HC4.out.below (fun k hk => by simp at hk; omega) HB2.out.size)).mono HB1.out.size))
    have HB4' : Hid (Below W1.heap.size W1 W4) := hid (HB2.out.trans (HC4.out.below (fun k hk => by simp at hk; omega) HB2.out.size))
    have HZ4 := hid (HZ1.out.later HB4'.out)
    have HS : Hid (∀ W, Below W4.heap.size W4 W → W.cell? ⟨W1.heap.size, 1, none⟩ = some (.int .i64 rn) ∧ (convert 22 9 (.slice a1 6 c1)).run Tryz.prog W = .ok (.string bx) W) := hid (fun W hW => by
      have hx := HX4.out.later hW
      have hc := conv_any (HQ1.out.later (HB4'.out.trans (hW.mono HB4'.out.size))).2.2 6 c1 HM1.out
      rw [HBx.out] at hc
      exact ⟨hx.cell 1, hc⟩)
    have lx4 := HX4.out.lt
    have HB9 : Hid (∀ W, Below W4.heap.size W4 W → Below W0.heap.size W0 W) := hid (fun W hW => HB4.out.trans (hW.mono HB4.out.size))
    have HNm := hid (number_any rn hrb.1 hrb.2)
    rw [hr2] at HNm
    obtain ⟨mR, hmR⟩ : ∃ mR, ub.length = mR := ⟨_, rfl⟩
    have HmR := hid hmR
    have HRs := hid hbx
    clear hmR hbx hr2 hrb
    refine wp_region_held_drew (S := fun W => W.cell? ⟨W1.heap.size, 1, none⟩ = some (.int .i64 rn) ∧ (convert 22 9 (.slice a1 6 c1)).run Tryz.prog W = .ok (.string bx) W) (by kernel_rfl) (HS.out _ (Below.refl _ _).drew) (fun hHeld => ?_)
    refine tk 0 63 hHeld ?_
    try simp only [Act.put, p1, p2, p3]
    refine tk 1 64 hHeld ?_
    try simp only [Act.put, p1, p2, p3]
    refine tk 4 67 hHeld ?_
    try simp only [Act.put, p1, p2, p3]
    refine tk 5 68 hHeld ?_
    try simp only [Act.put, p1, p2, p3]
    refine wpAnyH_ready (rs := [2]) (by kernel_rfl) (by simp) ?_
    refine AllReadyH.cons rfl (fun K hK => ?_) (AllReadyH.nil)
    go_simp
    go_wp2_with (go_at_call 21; refine (HNm.out _).mono ?_; rintro r W5 ⟨v5, rfl, ho5, hb5⟩; obtain ⟨a5, c5, hv5, hq5, -, -⟩ := ho5.slice mR HmR.out; subst hv5; have hcv := conv_any hq5.2.2 mR c5 hq5.1; rw [HRs.out] at hcv; have HB5 := hid (((Below.refl W4.heap.size W4).drew).trans hb5); clear ho5 hb5 hq5)
    refine hK.out _ _ (HS.out _ HB5.out) (fun hHeld => ?_)
    clear hK K
    try simp only [Act.put, p1, p2, p3]
    refine wpAnyH_ready (rs := [3]) (by kernel_rfl) (by simp) ?_
    refine AllReadyH.cons rfl (fun K hK => ?_) (AllReadyH.nil)
    go_simp
    refine hK.out _ _ (HS.out _ HB5.out) (fun hHeld => ?_)
    clear hK K
    try simp only [Act.put, p1, p2, p3]
    refine tk 6 69 hHeld ?_
    try simp only [Act.put, p1, p2, p3]
    refine wpAnyH_done (by kernel_rfl) ?_ _
    clear hHeld
    have hx5 := HX4.out.later HB5.out
    have m0 := hx5.cell 0; have m1' := hx5.cell 1; have m2 := hx5.cell 2; have m3 := hx5.cell 3; have m4 := hx5.cell 4; have m5 := hx5.cell 5; have m6 := hx5.cell 6; have m7 := hx5.cell 7
    simp only [List.getElem?_toArray, List.getElem?_cons_zero, List.getElem?_cons_succ] at m0 m1' m2 m3 m4 m5 m6 m7
    have lx5 := hx5.lt
    have HZ5 := hid (HZ4.out.later HB5.out)
    have lz5 := HZ5.out.lt
    go_wp2_with (refine store_rent 2 rn 0 0 0 0 false none 0 0 rfl (.tmp 2) (.tmp 71) rfl rfl rfl HZ5.out rfl ?_; intro W9 hx9 hc9)
    exact bodyPost_ret (ret_rent Tryz.results6 _ _ w.heap.size 2 rn 0 0 0 0 false none 0 0 rfl hx9) rfl ⟨2, rn, 0, 0, 0, 0, false, [], none, 0, 0, by rw [HE.out]; rfl, by rw [HE.out]; rfl, bargZ _, HI.out.fin (HB9.out _ HB5.out) hc9⟩
set_option maxRecDepth 20000 in
set_option maxHeartbeats 2000000 in
theorem rget_compact (ad : Option Addr) (len cap : Nat) (l : List Nat) (w W0 : World) (hW0 : w.alloc (.cells #[.int .i64 0, .int .i64 0, .int .i64 0, .int .i64 0, .int .i64 0, .int .i64 0, .bool false, .slice none 0 0] REt) = W0) (ub : List Nat) (m1 : Nat) (hI : GtR w W0 18 ub m1) (hU : Calls Tryz.prog 18 #[.slice ad len cap, .int .i64 0] W0 fun e w' => ∃ v, e = .returned (.tuple #[.int .i64 ((18 : Nat) : Int), v, .int .i64 (len : Int), .int .i64 0]) ∧ Own w' W0.heap.size v ub ∧ Below W0.heap.size W0 w') (hE : getE l = if (read13 ub).2 ≠ 0 then (et0, 22) else (⟨3, (read13 ub).1, bat0⟩, 0)) : Calls Tryz.prog 6 #[.slice ad len cap] w (GetPost l w) := by
  have HU := hid hU
  have HZ := hid hI.z0
  have HM1 := hid hI.body
  have hku := hI.kind
  have hroom := hI.room
  have HL := hid hI.lt
  have HI := hid hI
  clear hU hI
  by_cases h6 : m1 < 6
  · have HE : Hid (getE l = (et0, 22)) := by rw [hE, if_pos (read13_short (by rw [HM1.out]; exact h6))]; exact rfl
    have hd6 : decide ((m1 : Int) < 6) = true := decide_eq_true (by omega)
    clear hE
    go_enter Tryz.func6, Tryz.ntmps6
    go_wp2_with (first
      | (go_at_call 18; (with_reducible_and_instances (refine HU.out.mono ?_)); rintro x W1 ⟨v1, rfl, ho1, hb1⟩; obtain ⟨a1, c1, hv1, hq1, hc1, -⟩ := ho1.slice m1 HM1.out; subst hv1; have HQ1 := hid hq1; have HB1 := hid hb1; have HZ1 := hid (HZ.out.later hb1); have lz1 := (HZ.out.later hb1).lt; have HX1 := hid (show Blk (W1.alloc (.cells #[.int .i64 0, .int .i64 0, .int .i64 0, .int .i64 0, .int .i64 0, .int .i64 0, .bool false, .slice none 0 0] REt)) W1.heap.size #[.int .i64 0, .int .i64 0, .int .i64 0, .int .i64 0, .int .i64 0, .int .i64 0, .bool false, .slice none 0 0] REt from heap_alloc_new W1 _); clear ho1 hb1 hq1)
      | (refine store_rent 3 0 0 0 0 0 false none 0 0 rfl (.tmp 8) (.tmp 20) rfl rfl rfl HX1.out rfl ?_; intro W2 hx2 hc2; have HX2 := hid hx2; have HB2 : Hid (Below W1.heap.size W1 W2) := (((Below.refl _ W1).alloc (Nat.le_refl _) _).trans (hc2.below (fun g hg => by simp at hg; omega) (by simp))); have HZ2 := hid (HZ1.out.later HB2.out); have lz2 := (HZ1.out.later HB2.out).lt; have d0 := hx2.cell 0; have lx2 := hx2.lt; simp only [List.getElem?_toArray, List.getElem?_cons_zero] at d0; clear hx2 hc2)
      | (refine store_rent 0 0 0 0 0 0 false none 0 0 rfl (.tmp 2) (.tmp 51) rfl rfl rfl HZ2.out rfl ?_; intro W9 hx9 hc9))
    refine bodyPost_ret (ret_rent Tryz.results6 _ _ w.heap.size 0 0 0 0 0 0 false none 0 0 rfl hx9) rfl (get_bad HE.out ?_)
    exact HI.out.fin (HB1.out.trans (HB2.out.mono HB1.out.size)) hc9
  have hd6 : decide ((m1 : Int) < 6) = false := decide_eq_false (by omega)
  obtain ⟨rn, hrn⟩ : ∃ rn, (((valN ((ub.drop 0).take 6) : Nat)) : Int) = rn := ⟨_, rfl⟩
  have HG6 : Hid (getN ub 0 6 = (rn, 6, 0)) := by rw [← hrn]; exact getN_ok ub 0 6 (by omega) (by rw [HM1.out]; omega)
  obtain ⟨bx, hbx⟩ : ∃ bx, bstr ub = bx := ⟨_, rfl⟩
  have HBx := hid hbx
  by_cases h7 : 6 < m1
  · have hd7 : decide (6 < (m1 : Int)) = true := decide_eq_true (by omega)
    have hd7' : decide ((6 : Int) < (m1 : Int)) = true := decide_eq_true (by omega)
    go_enter Tryz.func6, Tryz.ntmps6
    go_upto_region 17 with (first
      | (go_at_call 18; (with_reducible_and_instances (refine HU.out.mono ?_)); rintro x W1 ⟨v1, rfl, ho1, hb1⟩; obtain ⟨a1, c1, hv1, hq1, hc1, -⟩ := ho1.slice m1 HM1.out; subst hv1; have HQ1 := hid hq1; have HB1 := hid hb1; have HZ1 := hid (HZ.out.later hb1); have lz1 := (HZ.out.later hb1).lt; have HX1 := hid (show Blk (W1.alloc (.cells #[.int .i64 0, .int .i64 0, .int .i64 0, .int .i64 0, .int .i64 0, .int .i64 0, .bool false, .slice none 0 0] REt)) W1.heap.size #[.int .i64 0, .int .i64 0, .int .i64 0, .int .i64 0, .int .i64 0, .int .i64 0, .bool false, .slice none 0 0] REt from heap_alloc_new W1 _); clear ho1 hb1 hq1)
      | (refine store_rent 3 0 0 0 0 0 false none 0 0 rfl (.tmp 8) (.tmp 20) rfl rfl rfl HX1.out rfl ?_; intro W2 hx2 hc2; have HX2 := hid hx2; have HB2 : Hid (Below W1.heap.size W1 W2) := (((Below.refl _ W1).alloc (Nat.le_refl _) _).trans (hc2.below (fun g hg => by simp at hg; omega) (by simp))); have HZ2 := hid (HZ1.out.later HB2.out); have lz2 := (HZ1.out.later HB2.out).lt; have d0 := hx2.cell 0; have d1 := hx2.cell 1; have lx2 := hx2.lt; simp only [List.getElem?_toArray, List.getElem?_cons_zero, List.getElem?_cons_succ] at d0 d1; have f1 := hx2.free 1; have HGe := hid (refGet_any a1 m1 c1 ub 0 6 W2 (HQ1.out.later HB2.out) (by omega) (by omega)); rw [HG6.out] at HGe; dsimp only at HGe; have HQ2 := hid (HQ1.out.later HB2.out); clear hx2 hc2)
      | (go_at_call 20; (with_reducible_and_instances (refine HGe.out.mono ?_)); rintro r w9 ⟨rfl, hw9⟩; obtain rfl := hw9.symm))
    have hs1 := HB1.out.size
    have HX3 : Hid (Blk (W2.setCell ⟨W1.heap.size, 1, none⟩ (.int .i64 rn)) W1.heap.size #[.int .i64 3, .int .i64 rn, .int .i64 0, .int .i64 0, .int .i64 0, .int .i64 0, .bool false, .slice none 0 0] REt) := hid (HX2.out.set 1 (.int .i64 rn))
    have HC3 : Hid (Chg [W1.heap.size] W2 (W2.setCell ⟨W1.heap.size, 1, none⟩ (.int .i64 rn))) := hid ((Chg.refl _ _).set (Or.inl (by simp)) 1 _)
    obtain ⟨W3, hW3⟩ : ∃ q, W2.setCell ⟨W1.heap.size, 1, none⟩ (.int .i64 rn) = q := ⟨_, rfl⟩
    rw [hW3] at HX3 HC3
    (try rw [hW3])
    clear hW3 d0 d1 f1
    have d1 := HX3.out.cell 1
    simp only [List.getElem?_toArray, List.getElem?_cons_zero, List.getElem?_cons_succ] at d1
    have f1 := HX3.out.free 1
    go_upto_region 19 with fail
    have HX4 : Hid (Blk (W3.setCell ⟨W1.heap.size, 1, none⟩ (.int .i64 281474976710656)) W1.heap.size #[.int .i64 3, .int .i64 281474976710656, .int .i64 0, .int .i64 0, .int .i64 0, .int .i64 0, .bool false, .slice none 0 0] REt) := hid (HX3.out.set 1 (.int .i64 281474976710656))
    have HC4 : Hid (Chg [W1.heap.size] W2 (W3.setCell ⟨W1.heap.size, 1, none⟩ (.int .i64 281474976710656))) := hid (HC3.out.set (Or.inl (by simp)) 1 _)
    obtain ⟨W4, hW4⟩ : ∃ q, W3.setCell ⟨W1.heap.size, 1, none⟩ (.int .i64 281474976710656) = q := ⟨_, rfl⟩
    rw [hW4] at HX4 HC4
    (try rw [hW4])
    clear hW4 d1 f1 HX3 HC3
    have HB4 : Hid (Below W0.heap.size W0 W4) := hid (HB1.out.trans ((HB2.out.trans (HC4.out.below (fun k hk => by simp at hk; omega) HB2.out.size)).mono HB1.out.size))
    have HB4' : Hid (Below W1.heap.size W1 W4) := hid (HB2.out.trans (HC4.out.below (fun k hk => by simp at hk; omega) HB2.out.size))
    have HZ4 := hid (HZ1.out.later HB4'.out)
    have HS : Hid (∀ W, Below W4.heap.size W4 W → W.cell? ⟨W1.heap.size, 1, none⟩ = some (.int .i64 281474976710656) ∧ (convert 22 9 (.slice a1 m1 c1)).run Tryz.prog W = .ok (.string bx) W) := hid (fun W hW => by
      have hx := HX4.out.later hW
      have hc := conv_any (HQ1.out.later (HB4'.out.trans (hW.mono HB4'.out.size))).2.2 m1 c1 HM1.out
      rw [HBx.out] at hc
      exact ⟨hx.cell 1, hc⟩)
    have lx4 := HX4.out.lt
    have HB9 : Hid (∀ W, Below W4.heap.size W4 W → Below W0.heap.size W0 W) := hid (fun W hW => HB4.out.trans (hW.mono HB4.out.size))
    have HNm := hid (number_any 281474976710656 (by omega) (by omega))
    obtain ⟨R, hR⟩ : ∃ R, tell13 281474976710656 = R := ⟨_, rfl⟩
    rw [hR] at HNm
    have hR8 : ∀ z ∈ R, z < 256 := by rw [← hR]; exact tell13_lt _
    have hR7 : R = [0, 0, 0, 0, 0, 0, 1] := by rw [← hR]; exact if_pos rfl
    obtain ⟨mR, hmR⟩ : ∃ mR, R.length = mR := ⟨_, rfl⟩
    have HmR := hid hmR
    obtain ⟨rs, hrs⟩ : ∃ rs, bstr R = rs := ⟨_, rfl⟩
    have HRs := hid hrs
    by_cases hRl : R = ub
    · have HE : Hid (getE l = (⟨3, 281474976710656, bat0⟩, 0)) := by
        have h7 : read13 ub = (281474976710656, 0) := by rw [← hRl, hR7]; exact if_pos rfl
        rw [hE, h7, if_neg (by simp)]
        exact rfl
      have hrb : bx = rs := by rw [← hrs, hRl]; exact HBx.out.symm
      subst hrb
      clear hE hR hRl hR8 hR7 hrs hmR hbx hrn
      refine wp_region_held_drew (S := fun W => W.cell? ⟨W1.heap.size, 1, none⟩ = some (.int .i64 281474976710656) ∧ (convert 22 9 (.slice a1 m1 c1)).run Tryz.prog W = .ok (.string bx) W) (by kernel_rfl) (HS.out _ (Below.refl _ _).drew) (fun hHeld => ?_)
      refine tk 0 63 hHeld ?_
      try simp only [Act.put, p1, p2, p3]
      refine tk 1 64 hHeld ?_
      try simp only [Act.put, p1, p2, p3]
      refine tk 4 67 hHeld ?_
      try simp only [Act.put, p1, p2, p3]
      refine tk 5 68 hHeld ?_
      try simp only [Act.put, p1, p2, p3]
      refine wpAnyH_ready (rs := [2]) (by kernel_rfl) (by simp) ?_
      refine AllReadyH.cons rfl (fun K hK => ?_) (AllReadyH.nil)
      go_simp
      go_wp2_with (go_at_call 21; refine (HNm.out _).mono ?_; rintro r W5 ⟨v5, rfl, ho5, hb5⟩; obtain ⟨a5, c5, hv5, hq5, -, -⟩ := ho5.slice mR HmR.out; subst hv5; have hcv := conv_any hq5.2.2 mR c5 hq5.1; rw [HRs.out] at hcv; have HB5 := hid (((Below.refl W4.heap.size W4).drew).trans hb5); clear ho5 hb5 hq5)
      refine hK.out _ _ (HS.out _ HB5.out) (fun hHeld => ?_)
      clear hK K
      try simp only [Act.put, p1, p2, p3]
      refine wpAnyH_ready (rs := [3]) (by kernel_rfl) (by simp) ?_
      refine AllReadyH.cons rfl (fun K hK => ?_) (AllReadyH.nil)
      go_simp
      refine hK.out _ _ (HS.out _ HB5.out) (fun hHeld => ?_)
      clear hK K
      try simp only [Act.put, p1, p2, p3]
      refine tk 6 69 hHeld ?_
      try simp only [Act.put, p1, p2, p3]
      refine wpAnyH_done (by kernel_rfl) ?_ _
      clear hHeld
      have hx5 := HX4.out.later HB5.out
      have m0 := hx5.cell 0; have m1' := hx5.cell 1; have m2 := hx5.cell 2; have m3 := hx5.cell 3; have m4 := hx5.cell 4; have m5 := hx5.cell 5; have m6 := hx5.cell 6; have m7 := hx5.cell 7
      simp only [List.getElem?_toArray, List.getElem?_cons_zero, List.getElem?_cons_succ] at m0 m1' m2 m3 m4 m5 m6 m7
      have lx5 := hx5.lt
      have HZ5 := hid (HZ4.out.later HB5.out)
      have lz5 := HZ5.out.lt
      go_wp2_with (refine store_rent 3 281474976710656 0 0 0 0 false none 0 0 rfl (.tmp 2) (.tmp 71) rfl rfl rfl HZ5.out rfl ?_; intro W9 hx9 hc9)
      exact bodyPost_ret (ret_rent Tryz.results6 _ _ w.heap.size 3 281474976710656 0 0 0 0 false none 0 0 rfl hx9) rfl ⟨3, 281474976710656, 0, 0, 0, 0, false, [], none, 0, 0, by rw [HE.out]; rfl, by rw [HE.out]; rfl, bargZ _, HI.out.fin (HB9.out _ HB5.out) hc9⟩
    · have HE : Hid (getE l = (et0, 22)) := by rw [hE, if_pos (read13_long (by rw [HM1.out]; exact h7) (fun e => hRl (by rw [hR7, e])))]; exact rfl
      have hE1 := bstr_beqL1 hR8 HL.out false (by simp [hRl])
      have hE2 := bstr_beqL hR8 HL.out false (by simp [hRl])
      rw [hrs, HBx.out] at hE1 hE2
      clear hE hR hRl hR8 hR7 hrs hmR hbx hrn
      refine wp_region_held_drew (S := fun W => W.cell? ⟨W1.heap.size, 1, none⟩ = some (.int .i64 281474976710656) ∧ (convert 22 9 (.slice a1 m1 c1)).run Tryz.prog W = .ok (.string bx) W) (by kernel_rfl) (HS.out _ (Below.refl _ _).drew) (fun hHeld => ?_)
      refine tk 0 63 hHeld ?_
      try simp only [Act.put, p1, p2, p3]
      refine tk 1 64 hHeld ?_
      try simp only [Act.put, p1, p2, p3]
      refine tk 4 67 hHeld ?_
      try simp only [Act.put, p1, p2, p3]
      refine tk 5 68 hHeld ?_
      try simp only [Act.put, p1, p2, p3]
      refine wpAnyH_ready (rs := [2]) (by kernel_rfl) (by simp) ?_
      refine AllReadyH.cons rfl (fun K hK => ?_) (AllReadyH.nil)
      go_simp
      go_wp2_with (go_at_call 21; refine (HNm.out _).mono ?_; rintro r W5 ⟨v5, rfl, ho5, hb5⟩; obtain ⟨a5, c5, hv5, hq5, -, -⟩ := ho5.slice mR HmR.out; subst hv5; have hcv := conv_any hq5.2.2 mR c5 hq5.1; rw [HRs.out] at hcv; have HB5 := hid (((Below.refl W4.heap.size W4).drew).trans hb5); clear ho5 hb5 hq5)
      refine hK.out _ _ (HS.out _ HB5.out) (fun hHeld => ?_)
      clear hK K
      try simp only [Act.put, p1, p2, p3]
      refine wpAnyH_ready (rs := [3]) (by kernel_rfl) (by simp) ?_
      refine AllReadyH.cons rfl (fun K hK => ?_) (AllReadyH.nil)
      go_simp
      refine hK.out _ _ (HS.out _ HB5.out) (fun hHeld => ?_)
      clear hK K
      try simp only [Act.put, p1, p2, p3]
      refine tk 6 69 hHeld ?_
      try simp only [Act.put, p1, p2, p3]
      refine wpAnyH_done (by kernel_rfl) ?_ _
      clear hHeld
      have HZ5 := hid (HZ4.out.later HB5.out)
      have lz5 := HZ5.out.lt
      go_wp2_with (refine store_rent 0 0 0 0 0 0 false none 0 0 rfl (.tmp 2) (.tmp 70) rfl rfl rfl HZ5.out rfl ?_; intro W9 hx9 hc9)
      refine bodyPost_ret (ret_rent Tryz.results6 _ _ w.heap.size 0 0 0 0 0 0 false none 0 0 rfl hx9) rfl (get_bad HE.out ?_)
      exact HI.out.fin (HB9.out _ HB5.out) hc9
  · have hm6 : m1 = 6 := by omega
    subst hm6
    obtain ⟨hr1, hr2, hr3⟩ := read13_six HM1.out HL.out
    have hrn' : ((valN ub : Nat) : Int) = rn := by rw [← hrn, List.drop_zero, List.take_of_length_le (by rw [HM1.out]; exact Nat.le_refl _)]
    rw [hrn'] at hr1 hr2
    have hrb : 0 ≤ rn ∧ rn ≤ 281474976710656 := by omega
    have HE : Hid (getE l = (⟨3, rn, bat0⟩, 0)) := by rw [hE, hr1, if_neg (by simp)]; exact rfl
    clear hE hrn hrn' hr1 hr3
    go_enter Tryz.func6, Tryz.ntmps6
    go_upto_region 17 with (first
      | (go_at_call 18; (with_reducible_and_instances (refine HU.out.mono ?_)); rintro x W1 ⟨v1, rfl, ho1, hb1⟩; obtain ⟨a1, c1, hv1, hq1, hc1, -⟩ := ho1.slice 6 HM1.out; subst hv1; have HQ1 := hid hq1; have HB1 := hid hb1; have HZ1 := hid (HZ.out.later hb1); have lz1 := (HZ.out.later hb1).lt; have HX1 := hid (show Blk (W1.alloc (.cells #[.int .i64 0, .int .i64 0, .int .i64 0, .int .i64 0, .int .i64 0, .int .i64 0, .bool false, .slice none 0 0] REt)) W1.heap.size #[.int .i64 0, .int .i64 0, .int .i64 0, .int .i64 0, .int .i64 0, .int .i64 0, .bool false, .slice none 0 0] REt from heap_alloc_new W1 _); clear ho1 hb1 hq1)
      | (refine store_rent 3 0 0 0 0 0 false none 0 0 rfl (.tmp 8) (.tmp 20) rfl rfl rfl HX1.out rfl ?_; intro W2 hx2 hc2; have HX2 := hid hx2; have HB2 : Hid (Below W1.heap.size W1 W2) := (((Below.refl _ W1).alloc (Nat.le_refl _) _).trans (hc2.below (fun g hg => by simp at hg; omega) (by simp))); have HZ2 := hid (HZ1.out.later HB2.out); have lz2 := (HZ1.out.later HB2.out).lt; have d0 := hx2.cell 0; have d1 := hx2.cell 1; have lx2 := hx2.lt; simp only [List.getElem?_toArray, List.getElem?_cons_zero, List.getElem?_cons_succ] at d0 d1; have f1 := hx2.free 1; have HGe := hid (refGet_any a1 6 c1 ub 0 6 W2 (HQ1.out.later HB2.out) (by omega) (by omega)); rw [HG6.out] at HGe; dsimp only at HGe; have HQ2 := hid (HQ1.out.later HB2.out); clear hx2 hc2)
      | (go_at_call 20; (with_reducible_and_instances (refine HGe.out.mono ?_)); rintro r w9 ⟨rfl, hw9⟩; obtain rfl := hw9.symm))
    have hs1 := HB1.out.size
    have HX4 : Hid (Blk (W2.setCell ⟨W1.heap.size, 1, none⟩ (.int .i64 rn)) W1.heap.size #[.int .i64 3, .int .i64 rn, .int .i64 0, .int .i64 0, .int .i64 0, .int .i64 0, .bool false, .slice none 0 0] REt) := hid (HX2.out.set 1 (.int .i64 rn))
    have HC4 : Hid (Chg [W1.heap.size] W2 (W2.setCell ⟨W1.heap.size, 1, none⟩ (.int .i64 rn))) := hid ((Chg.refl _ _).set (Or.inl (by simp)) 1 _)
    obtain ⟨W4, hW4⟩ : ∃ q, W2.setCell ⟨W1.heap.size, 1, none⟩ (.int .i64 rn) = q := ⟨_, rfl⟩
    rw [hW4] at HX4 HC4
    (try rw [hW4])
    clear hW4 d0 d1 f1
    go_upto_region 19 with fail
    have HB4 : Hid (Below W0.heap.size W0 W4) := hid (HB1.out.trans ((HB2.out.trans (HC4.out.below (fun k hk => by simp at hk; omega) HB2.out.size)).mono HB1.out.size))
    have HB4' : Hid (Below W1.heap.size W1 W4) := hid (HB2.out.trans (HC4.out.below (fun k hk => by simp at hk; omega) HB2.out.size))
    have HZ4 := hid (HZ1.out.later HB4'.out)
    have HS : Hid (∀ W, Below W4.heap.size W4 W → W.cell? ⟨W1.heap.size, 1, none⟩ = some (.int .i64 rn) ∧ (convert 22 9 (.slice a1 6 c1)).run Tryz.prog W = .ok (.string bx) W) := hid (fun W hW => by
      have hx := HX4.out.later hW
      have hc := conv_any (HQ1.out.later (HB4'.out.trans (hW.mono HB4'.out.size))).2.2 6 c1 HM1.out
      rw [HBx.out] at hc
      exact ⟨hx.cell 1, hc⟩)
    have lx4 := HX4.out.lt
    have HB9 : Hid (∀ W, Below W4.heap.size W4 W → Below W0.heap.size W0 W) := hid (fun W hW => HB4.out.trans (hW.mono HB4.out.size))
    have HNm := hid (number_any rn hrb.1 hrb.2)
    rw [hr2] at HNm
    obtain ⟨mR, hmR⟩ : ∃ mR, ub.length = mR := ⟨_, rfl⟩
    have HmR := hid hmR
    have HRs := hid hbx
    clear hmR hbx hr2 hrb
    refine wp_region_held_drew (S := fun W => W.cell? ⟨W1.heap.size, 1, none⟩ = some (.int .i64 rn) ∧ (convert 22 9 (.slice a1 6 c1)).run Tryz.prog W = .ok (.string bx) W) (by kernel_rfl) (HS.out _ (Below.refl _ _).drew) (fun hHeld => ?_)
    refine tk 0 63 hHeld ?_
    try simp only [Act.put, p1, p2, p3]
    refine tk 1 64 hHeld ?_
    try simp only [Act.put, p1, p2, p3]
    refine tk 4 67 hHeld ?_
    try simp only [Act.put, p1, p2, p3]
    refine tk 5 68 hHeld ?_
    try simp only [Act.put, p1, p2, p3]
    refine wpAnyH_ready (rs := [2]) (by kernel_rfl) (by simp) ?_
    refine AllReadyH.cons rfl (fun K hK => ?_) (AllReadyH.nil)
    go_simp
    go_wp2_with (go_at_call 21; refine (HNm.out _).mono ?_; rintro r W5 ⟨v5, rfl, ho5, hb5⟩; obtain ⟨a5, c5, hv5, hq5, -, -⟩ := ho5.slice mR HmR.out; subst hv5; have hcv := conv_any hq5.2.2 mR c5 hq5.1; rw [HRs.out] at hcv; have HB5 := hid (((Below.refl W4.heap.size W4).drew).trans hb5); clear ho5 hb5 hq5)
    refine hK.out _ _ (HS.out _ HB5.out) (fun hHeld => ?_)
    clear hK K
    try simp only [Act.put, p1, p2, p3]
    refine wpAnyH_ready (rs := [3]) (by kernel_rfl) (by simp) ?_
    refine AllReadyH.cons rfl (fun K hK => ?_) (AllReadyH.nil)
    go_simp
    refine hK.out _ _ (HS.out _ HB5.out) (fun hHeld => ?_)
    clear hK K
    try simp only [Act.put, p1, p2, p3]
    refine tk 6 69 hHeld ?_
    try simp only [Act.put, p1, p2, p3]
    refine wpAnyH_done (by kernel_rfl) ?_ _
    clear hHeld
    have hx5 := HX4.out.later HB5.out
    have m0 := hx5.cell 0; have m1' := hx5.cell 1; have m2 := hx5.cell 2; have m3 := hx5.cell 3; have m4 := hx5.cell 4; have m5 := hx5.cell 5; have m6 := hx5.cell 6; have m7 := hx5.cell 7
    simp only [List.getElem?_toArray, List.getElem?_cons_zero, List.getElem?_cons_succ] at m0 m1' m2 m3 m4 m5 m6 m7
    have lx5 := hx5.lt
    have HZ5 := hid (HZ4.out.later HB5.out)
    have lz5 := HZ5.out.lt
    go_wp2_with (refine store_rent 3 rn 0 0 0 0 false none 0 0 rfl (.tmp 2) (.tmp 71) rfl rfl rfl HZ5.out rfl ?_; intro W9 hx9 hc9)
    exact bodyPost_ret (ret_rent Tryz.results6 _ _ w.heap.size 3 rn 0 0 0 0 false none 0 0 rfl hx9) rfl ⟨3, rn, 0, 0, 0, 0, false, [], none, 0, 0, by rw [HE.out]; rfl, by rw [HE.out]; rfl, bargZ _, HI.out.fin (HB9.out _ HB5.out) hc9⟩
theorem unframe_none {l : List Nat} (h : (unframeN l 0).2.2.2 ≠ 0) : ∃ e : Int, e ≠ 0 ∧ unframeN l 0 = (0, [], 0, e) := by
  unfold unframeN at h ⊢
  rw [if_pos (by omega)] at h ⊢
  split at h
  · exact absurd rfl h
  · rename_i h0
    exact ⟨_, h, if_neg h0⟩
theorem unframe_ltL {l : List Nat} (hl : ∀ x ∈ l, x < 256) : ∀ x ∈ (unframeN l 0).2.1, x < 256 := by
  unfold unframeN
  rw [if_pos (by omega)]
  split
  · exact drop_take_lt hl _ _
  · intro x hx
    cases hx
theorem rgetEntry_any (ad : Option Addr) (len cap : Nat) (l : List Nat) (w : World) (hp : Part.ok w ⟨ad, len, cap, l⟩) (hlc : len ≤ cap) (hm : len ≤ 1000000000000000) : Calls Tryz.prog 6 #[.slice ad len cap] w (GetPost l w) := by
  obtain ⟨W0, hW0⟩ : ∃ W0, w.alloc (.cells #[.int .i64 0, .int .i64 0, .int .i64 0, .int .i64 0, .int .i64 0, .int .i64 0, .bool false, .slice none 0 0] REt) = W0 := ⟨_, rfl⟩
  have b0 : Below w.heap.size w W0 := by rw [← hW0]; exact (Below.refl _ _).alloc (Nat.le_refl _) _
  have z0 : Blk W0 w.heap.size #[.int .i64 0, .int .i64 0, .int .i64 0, .int .i64 0, .int .i64 0, .int .i64 0, .bool false, .slice none 0 0] REt := by rw [← hW0]; exact heap_alloc_new w _
  have hU := refUnframe_any ad len cap l 0 W0 (hp.later b0) hlc hm (by omega)
  have hlen : l.length = len := hp.1
  by_cases he : (unframeN l 0).2.2.2 = 0
  case neg =>
    obtain ⟨e, hne, hu⟩ := unframe_none he
    have hE : getE l = (et0, 22) := by unfold getE; rw [if_pos (Or.inl he)]
    rw [hu] at hU
    exact rget_no1 ad len cap l w W0 hW0 0 e 0 [] 0 ⟨b0, z0, by omega, rfl, by omega, fun x hx => by cases hx⟩ hU (Or.inl hne) hE
  obtain ⟨uk, ub, hk, hub, hu⟩ := unframe_shape hp.2.2.1 he
  have hbl : ∀ x ∈ ub, x < 256 := by
    have h1 : ub = (unframeN l 0).2.1 := by rw [hu]
    rw [h1]
    exact unframe_ltL hp.2.2.1
  by_cases ht : (unframeN l 0).2.2.1 = l.length
  case neg =>
    have hE : getE l = (et0, 22) := by unfold getE; rw [if_pos (Or.inr ht)]
    obtain ⟨ut, hut⟩ : ∃ ut, (unframeN l 0).2.2.1 = ut := ⟨_, rfl⟩
    rw [hut] at hu ht
    rw [hu] at hU
    exact rget_no1 ad len cap l w W0 hW0 uk 0 ut ub ub.length ⟨b0, z0, hk, rfl, hub, hbl⟩ hU (Or.inr (by rw [← hlen]; exact ht)) hE
  rw [ht, hlen] at hu
  rw [hu] at hU
  dsimp only at hU
  have hE : getE l = (if (uk : Int) = 16 then (if (decodeN ub).2 ≠ 0 then (et0, 22) else (⟨1, 0, (decodeN ub).1⟩, 0)) else if (uk : Int) = 17 ∨ (uk : Int) = 18 then (if (read13 ub).2 ≠ 0 then (et0, 22) else (⟨(uk : Int) - 15, (read13 ub).1, bat0⟩, 0)) else (et0, 22)) := by
    unfold getE
    rw [if_neg (by rintro (h | h); exact h he; exact h ht), hu]
  have hI : GtR w W0 uk ub ub.length := ⟨b0, z0, hk, rfl, hub, hbl⟩
  by_cases k16 : uk = 16
  · subst k16
    rw [if_pos (by decide)] at hE
    exact rget_batch ad len cap l w W0 hW0 ub _ hI hU hE
  by_cases k17 : uk = 17
  · subst k17
    rw [if_neg (by decide), if_pos (by decide), show ((17 : Nat) : Int) - 15 = 2 from rfl] at hE
    exact rget_retain ad len cap l w W0 hW0 ub _ hI hU hE
  by_cases k18 : uk = 18
  · subst k18
    rw [if_neg (by decide), if_pos (by decide), show ((18 : Nat) : Int) - 15 = 3 from rfl] at hE
    exact rget_compact ad len cap l w W0 hW0 ub _ hI hU hE
  · rw [if_neg (by omega), if_neg (by omega)] at hE
    exact rget_other ad len cap l w W0 hW0 uk ub _ hI hU ⟨k16, k17, k18⟩ hE
end Go.Proofs.YtgihmkgbkffgbaaGreat
