/- How a slice of Ops of layer 8 that came in is read: of each its Ask. small of the statements of layer 8. -/
import Derived.Test.YtmiibakbcogolaaGreatOpen
import Derived.Deep.Slices
import Derived.OpenShut
import Derived.Test.YtmiibakbcogolaaGreatAcBox
import Derived.Test.YtmiibakbcogolaaGreatPAcB
import Derived.Test.YtmiibakbcogolaaGreatPAcC
namespace Go.Proofs.YtmiibakbcogolaaGreat.Ac
open Go.RowKit
open Go.ChangeShapes Go.WideShapes Go.ChangeAt
variable {H : Type} {enc : TypeId × Value → H} {W : World}

/-- The bytes of a slice that was read; of its size nothing is asked. -/
theorem open_textA {v : Value} {fuel : Nat} {x : DataW H × List MemPlace} (hf : DataW.trod enc Tryz.prog W 0 (fun _ => true) true fuel 22 [v] = some x) : ∃ P : Part, v = .slice P.ad P.len P.cap ∧ P.ok W ∧ P.len ≤ P.cap := by
  rcases open_ints Tryz.underlying22 Tryz.underlying5 (by kernel_rfl) hf with ⟨hcs, hx⟩ | ⟨x, l, c, zs, hcs, _, hl, hm, hz, hx, hcell, hwz⟩
  · simp only [List.cons.injEq, and_true] at hcs
    exact ⟨⟨none, 0, 0, []⟩, hcs, ⟨rfl, fun _ => ⟨rfl, rfl⟩, fun _ h => (by cases h), Or.inl rfl⟩, Nat.le_refl _⟩
  · simp only [List.cons.injEq, and_true] at hcs
    simp only [if_true] at hz
    have hw : ∀ n ∈ zs, 0 ≤ n ∧ n < 256 := fun n hn => u8_wf (hwz n hn)
    refine ⟨⟨some x, l, c, (zs.take l).map Int.toNat⟩, hcs, ⟨by simp; omega, fun e => (by cases e), ?_, ?_⟩, hl⟩
    · intro y hy
      obtain ⟨z, hz, rfl⟩ := List.mem_map.1 hy
      have := hw z (List.mem_of_mem_take hz)
      omega
    · by_cases h0 : l = 0
      · subst h0; exact Or.inl (by simp)
      · right
        obtain ⟨b, off, spot⟩ := x
        have hc0 := hcell 0 (by omega)
        have hspot : spot = none := by simpa [Addr.add] using World.cell?_spot hc0
        subst hspot
        have hb : b < W.heap.size := by
          rcases Nat.lt_or_ge b W.heap.size with h | h
          · exact h
          · simp [Addr.add, World.cell?, Array.getElem?_eq_none h] at hc0
        refine ⟨b, off, rfl, hb, ?_⟩
        intro i hi
        simp only [List.length_map, List.length_take] at hi
        have e := hcell i (by omega)
        rw [addr_add] at e
        rw [e]
        have hiz : i < zs.length := by omega
        have := hw _ (List.getElem_mem hiz)
        simp only [List.getD_eq_getElem?_getD, List.getElem?_map, List.getElem?_take, List.getElem?_eq_getElem hiz, if_pos (show i < l by omega), Option.map_some, Option.getD_some]
        congr 2
        omega
theorem list5O {α : Type} {cs : List α} (h : cs.length = 5) : ∃ c0 c1 c2 c3 c4, cs = [c0, c1, c2, c3, c4] := by
  match cs, h with
  | [c0, c1, c2, c3, c4], _ => exact ⟨c0, c1, c2, c3, c4, rfl⟩
theorem cells5IO : Tryz.prog.cellsOf 3 = 1 := by kernel_rfl
theorem cells5LO : Tryz.prog.cellsOf 22 = 1 := by kernel_rfl
theorem cellsAskO : Tryz.prog.cellsOf 24 = 5 := by kernel_rfl
theorem trod5O {P : Program} {t : TypeId} {f0 f1 f2 f3 f4 : Field} {fuel : Nat} {cs : List Value} {x : DataW H × List MemPlace} (ht : P.underlying t = some (.struct #[f0, f1, f2, f3, f4])) (h : DataW.trod enc P W 0 (fun _ => true) true fuel t cs = some x) :
    ∃ y0 y1 y2 y3 y4 n, x.1 = .agg [y0.1, y1.1, y2.1, y3.1, y4.1] ∧ DataW.trod enc P W 0 (fun _ => true) true n f0.type ((cs.drop f0.offset).take (P.cellsOf f0.type)) = some y0 ∧
      DataW.trod enc P W 0 (fun _ => true) true n f1.type ((cs.drop f1.offset).take (P.cellsOf f1.type)) = some y1 ∧ DataW.trod enc P W 0 (fun _ => true) true n f2.type ((cs.drop f2.offset).take (P.cellsOf f2.type)) = some y2 ∧
      DataW.trod enc P W 0 (fun _ => true) true n f3.type ((cs.drop f3.offset).take (P.cellsOf f3.type)) = some y3 ∧ DataW.trod enc P W 0 (fun _ => true) true n f4.type ((cs.drop f4.offset).take (P.cellsOf f4.type)) = some y4 := by
  obtain ⟨xs, n, _, rfl, _, hlen, hf⟩ := DataW.trod_struct ht h
  obtain ⟨y0, y1, y2, y3, y4, rfl⟩ := list5O (hlen.trans rfl)
  exact ⟨y0, y1, y2, y3, y4, n, by simp, by simpa using hf 0 f0 rfl, by simpa using hf 1 f1 rfl, by simpa using hf 2 f2 rfl, by simpa using hf 3 f3 rfl, by simpa using hf 4 f4 rfl⟩
/-- The Ask of an Op. -/
structure AskD where
  k : Int
  g : Int
  v : Int
  b : Int
  P : Part
def i64In (x : Int) : Prop := -9223372036854775808 ≤ x ∧ x ≤ 9223372036854775807
structure AskD.ok (r : AskD) (W : World) : Prop where
  k : i64In r.k
  g : i64In r.g
  v : i64In r.v
  b : i64In r.b
  text : r.P.ok W
  cap : r.P.len ≤ r.P.cap
structure AskD.at (r : AskD) (W : World) (b off : Nat) : Prop where
  c0 : W.cell? ⟨b, off, none⟩ = some (.int .i64 r.k)
  c1 : W.cell? ⟨b, off + 1, none⟩ = some (.int .i64 r.g)
  c2 : W.cell? ⟨b, off + 2, none⟩ = some (.int .i64 r.v)
  c3 : W.cell? ⟨b, off + 3, none⟩ = some (.int .i64 r.b)
  c4 : W.cell? ⟨b, off + 4, none⟩ = some (.slice r.P.ad r.P.len r.P.cap)
theorem cellsOp8 : Tryz.prog.cellsOf 62 = 9 := by kernel_rfl
theorem list9 {α : Type} {cs : List α} (h : cs.length = 9) : ∃ c0 c1 c2 c3 c4 c5 c6 c7 c8, cs = [c0, c1, c2, c3, c4, c5, c6, c7, c8] := by
  match cs, h with
  | [c0, c1, c2, c3, c4, c5, c6, c7, c8], _ => exact ⟨c0, c1, c2, c3, c4, c5, c6, c7, c8, rfl⟩
set_option maxRecDepth 100000 in
theorem open_op8 {n : Nat} {cs : List Value} {x : DataW H × List MemPlace} (hl : cs.length = 9) (h : DataW.trod enc Tryz.prog W 0 (fun _ => true) true n 62 cs = some x) :
    ∃ r : AskD, cs[2]? = some (.int .i64 r.k) ∧ cs[3]? = some (.int .i64 r.g) ∧ cs[4]? = some (.int .i64 r.v) ∧ cs[5]? = some (.int .i64 r.b) ∧ cs[6]? = some (.slice r.P.ad r.P.len r.P.cap) ∧ r.ok W := by
  obtain ⟨y0, y1, y2, y3, y4, m, -, f0, f1, f2, f3, f4⟩ := trod5O Tryz.underlying62 h
  obtain ⟨c0, c1, c2, c3, c4, c5, c6, c7, c8, rfl⟩ := list9 hl
  clear f0 f1 f3 f4
  simp only [cellsAskO, List.drop_succ_cons, List.drop_zero, List.take_succ_cons, List.take_zero] at f2
  obtain ⟨z0, z1, z2, z3, z4, m', -, g0, g1, g2, g3, g4⟩ := trod5O Tryz.underlying24 f2
  simp only [cells5IO, cells5LO, List.drop_zero, List.drop_succ_cons, List.take_succ_cons, List.take_zero] at g0 g1 g2 g3 g4
  obtain ⟨k, e0, -, w0⟩ := DataW.trod_int Tryz.underlying3 g0
  obtain ⟨g, e1, -, w1⟩ := DataW.trod_int Tryz.underlying3 g1
  obtain ⟨v, e2, -, w2⟩ := DataW.trod_int Tryz.underlying3 g2
  obtain ⟨b, e3, -, w3⟩ := DataW.trod_int Tryz.underlying3 g3
  obtain ⟨P, e4, p1, p2⟩ := open_textA g4
  simp only [List.cons.injEq, and_true] at e0 e1 e2 e3
  subst e0 e1 e2 e3 e4
  exact ⟨⟨k, g, v, b, P⟩, rfl, rfl, rfl, rfl, rfl, i64_wf w0, i64_wf w1, i64_wf w2, i64_wf w3, p1, p2⟩
/-- A slice of Ops that came in. -/
def Ops8 (W : World) (f : Nat → AskD) (ad : Option Addr) (len : Nat) : Prop := len = 0 ∨ ∃ b off, ad = some ⟨b, off, none⟩ ∧ b < W.heap.size ∧ ∀ i, i < len → (f i).at W b (off + i * 9 + 2) ∧ (f i).ok W
set_option maxRecDepth 100000 in
theorem open_ops8 {ad : Option Addr} {len cap : Nat} {d : DataW H} {p : List MemPlace} (h : DataW.Trod enc Tryz.prog W 0 (fun _ => true) true 53 (.slice ad len cap) d p) : ∃ f, Ops8 W f ad len ∧ len ≤ maxLen := by
  obtain ⟨fuel, hf⟩ := h
  rcases Go.Deep.open_slice Tryz.underlying53 hf with ⟨hcs, -⟩ | ⟨a, len, cap, m, n', D, Pl, hcs, _, hl, hm, hmm, hx, hV⟩
  · simp [Value.cells] at hcs
    obtain ⟨rfl, rfl, rfl⟩ := hcs
    exact ⟨fun _ => ⟨0, 0, 0, 0, ⟨none, 0, 0, []⟩⟩, Or.inl rfl, by unfold maxLen; omega⟩
  · simp [Value.cells] at hcs
    obtain ⟨rfl, rfl, rfl⟩ := hcs
    simp only [if_true] at hmm
    subst hmm
    rw [cellsOp8] at hV
    have each : ∀ i, i < len → ∃ r : AskD, (W.cell? (a.add (i * 9 + 2)) = some (.int .i64 r.k) ∧ W.cell? (a.add (i * 9 + 3)) = some (.int .i64 r.g) ∧ W.cell? (a.add (i * 9 + 4)) = some (.int .i64 r.v) ∧ W.cell? (a.add (i * 9 + 5)) = some (.int .i64 r.b) ∧ W.cell? (a.add (i * 9 + 6)) = some (.slice r.P.ad r.P.len r.P.cap)) ∧ r.ok W := by
      intro i hi
      obtain ⟨cs', h1, h2⟩ := hV i (by omega)
      obtain ⟨_, hlen, hcell⟩ := World.cells?_some h1
      obtain ⟨r, e0, e1, e2, e3, e4, hok⟩ := open_op8 (by simpa using hlen) h2
      have q2 := hcell 2 (by omega)
      have q3 := hcell 3 (by omega)
      have q4 := hcell 4 (by omega)
      have q5 := hcell 5 (by omega)
      have q6 := hcell 6 (by omega)
      rw [Go.Deep.add_add] at q2 q3 q4 q5 q6
      exact ⟨r, ⟨q2.trans e0, q3.trans e1, q4.trans e2, q5.trans e3, q6.trans e4⟩, hok⟩
    obtain ⟨f, hf2⟩ := @Go.Deep.choose_lt AskD ⟨⟨0, 0, 0, 0, ⟨none, 0, 0, []⟩⟩⟩ _ _ each
    refine ⟨f, ?_, by omega⟩
    by_cases h0 : len = 0
    · exact Or.inl h0
    · right
      obtain ⟨b, off, spot⟩ := a
      have hc0 : ∃ c, W.cell? ((⟨b, off, spot⟩ : Addr).add 0) = some c := by
        obtain ⟨cs', h1, h2⟩ := hV 0 (by omega)
        obtain ⟨_, hlen, hcell⟩ := World.cells?_some h1
        have q := hcell 0 (by omega)
        obtain ⟨c0, c1, c2, c3, c4, c5, c6, c7, c8, rfl⟩ := list9 (cs := cs') (by simpa using hlen)
        exact ⟨c0, by simpa [Go.Deep.add_add] using q⟩
      obtain ⟨c0, hc0⟩ := hc0
      have hspot : spot = none := by simpa [Addr.add] using World.cell?_spot hc0
      subst hspot
      have hb : b < W.heap.size := by
        rcases Nat.lt_or_ge b W.heap.size with h | h
        · exact h
        · simp [Addr.add, World.cell?, Array.getElem?_eq_none h] at hc0
      refine ⟨b, off, rfl, hb, fun i hi => ?_⟩
      obtain ⟨⟨q2, q3, q4, q5, q6⟩, hok⟩ := hf2 i hi
      rw [addr_add] at q2 q3 q4 q5 q6
      simp only [← Nat.add_assoc] at q2 q3 q4 q5 q6
      exact ⟨⟨q2, q3, q4, q5, q6⟩, hok⟩
end Go.Proofs.YtmiibakbcogolaaGreat.Ac
namespace Go.Proofs.YtmiibakbcogolaaGreat.Ac
open Go.RowKit Crcm

theorem tmod_bd (x : Int) (m : Int) (hm : 0 < m) : -m < x.tmod m ∧ x.tmod m < m := by
  have h1 := Int.tmod_lt_of_pos x hm
  have h2 := Int.lt_tmod_of_pos x hm
  omega
theorem mod_nat (x : Int) (m : Nat) (hm : 0 < m) : ∃ N : Nat, N < m ∧ (x.tmod (m : Int) + (m : Int)).tmod (m : Int) = (N : Int) ∧ (x.tmod (m : Int) + (m : Int)) % (m : Int) = (N : Int) ∧ x.tmod (m : Int) % (m : Int) = (N : Int) := by
  have h := tmod_bd x m (by omega)
  have h0 : 0 ≤ x.tmod (m : Int) + (m : Int) := by omega
  have e1 := Int.tmod_eq_emod_of_nonneg (b := (m : Int)) h0
  have h1 := Int.emod_nonneg (x.tmod (m : Int) + (m : Int)) (b := (m : Int)) (by omega)
  have h2 := Int.emod_lt_of_pos (x.tmod (m : Int) + (m : Int)) (b := (m : Int)) (by omega)
  refine ⟨((x.tmod (m : Int) + (m : Int)) % (m : Int)).toNat, by omega, by omega, by omega, ?_⟩
  have h3 : (x.tmod (m : Int) + (m : Int)) % (m : Int) = x.tmod (m : Int) % (m : Int) := by simp
  omega
/-- What small makes of an Ask. -/
structure Sml (W : World) (k g v b : Nat) (Q : Part) : Prop where
  kind : k = 1 ∨ k = 2 ∨ k = 3
  key : g < 2
  ver : v = 1 ∨ v = 2
  may : askMay k g v b Q.len = true
  len : Q.len ≤ 100
  ok : Q.ok W
theorem part_cut {W : World} {P : Part} (h : P.ok W) (n : Nat) (hn : n ≤ P.len) (h0 : 0 < n) : Part.ok W ⟨P.ad, n, P.cap, P.l.take n⟩ := by
  have hl := h.1
  refine ⟨by simp; omega, fun e => absurd (h.2.1 e).1 (by omega), fun x hx => h.2.2.1 x (List.mem_of_mem_take hx), ?_⟩
  rcases h.2.2.2 with h1 | ⟨b, off, e, hb, hc⟩
  · rw [h1] at hl; simp at hl; omega
  · refine Or.inr ⟨b, off, e, hb, fun i hi => ?_⟩
    simp only [List.length_take] at hi
    have := hc i (by omega)
    rw [this]
    simp only [List.getD_eq_getElem?_getD, List.getElem?_take]
    rw [if_pos (by omega)]
theorem ret_ref {fn : Func} {p : Tmp} (h : fn.results = #[.cell p 24]) (tmps : Array Value) (w : World) (B : Nat) (k g v b : Int) (ad : Option Addr) (len cap : Nat)
    (hp : tmps.getD p undef = .pointer (some ⟨B, 0, none⟩)) (hg : Blk w B #[.int .i64 k, .int .i64 g, .int .i64 v, .int .i64 b, .slice ad len cap] 24) :
    (results fn tmps).run Tryz.prog w = .ok (askV k g v b ad len cap) w := by
  have hl := run_loadVar_row (P := Tryz.prog) w B 24 24 _ (0, 0) _ hg Tryz.underlying24 rfl (by kernel_rfl)
  have hp' : tmps[p]?.getD undef = .pointer (some ⟨B, 0, none⟩) := by rw [← hp]; simp
  simp [results, h, asAddr, hp', hl, askV]
set_option maxRecDepth 100000 in
set_option maxHeartbeats 4000000 in
theorem small_any (r : AskD) (W : World) (hr : r.ok W) : ∃ (k g v b : Nat) (Q : Part), Sml W k g v b Q ∧ ∀ w, Calls Tryz.prog 32 #[askV r.k r.g r.v r.b r.P.ad r.P.len r.P.cap] w fun x w' => x = .returned (askV (k : Int) (g : Int) (v : Int) (b : Int) Q.ad Q.len Q.cap) ∧ Below w.heap.size w w' := by
  obtain ⟨zk, zg, zv, zb, ⟨ad, len, cap, l⟩⟩ := r
  obtain ⟨hk, hg, hv, hb, ht, hlc⟩ := hr
  simp only at *
  unfold i64In at *
  obtain ⟨K, lK, eK, fK, gK⟩ := mod_nat zk 3 (by omega)
  obtain ⟨G, lG, eG, fG, gG⟩ := mod_nat zg 2 (by omega)
  obtain ⟨V, lV, eV, fV, gV⟩ := mod_nat zv 2 (by omega)
  obtain ⟨B, lB, eB, fB, gB⟩ := mod_nat zb 20 (by omega)
  have tK := tmod_bd zk 3 (by omega)
  have tG := tmod_bd zg 2 (by omega)
  have tV := tmod_bd zv 2 (by omega)
  have tB := tmod_bd zb 20 (by omega)
  simp only [Int.cast_ofNat_Int] at *
  obtain ⟨Q, hQ, hQl, hQk⟩ : ∃ Q : Part, Q = (if 100 < len then (⟨ad, 100, cap, l.take 100⟩ : Part) else ⟨ad, len, cap, l⟩) ∧ Q.len ≤ 100 ∧ Q.ok W := by
    refine ⟨_, rfl, ?_, ?_⟩
    · split <;> first | omega | (simp only; omega)
    · split
      · exact part_cut ht 100 (by simp only; omega) (by omega)
      · exact ht
  obtain ⟨Q1, hQ1, hQ1l, hQ1k, hQ10⟩ : ∃ Q1 : Part, Q1 = (if K = 0 then (⟨none, 0, 0, []⟩ : Part) else Q) ∧ Q1.len ≤ 100 ∧ Q1.ok W ∧ (K = 0 → Q1.len = 0) := by
    refine ⟨_, rfl, ?_, ?_, ?_⟩
    · split <;> first | omega | (simp only; omega)
    · split
      · exact ⟨rfl, fun _ => ⟨rfl, rfl⟩, fun _ h => (by cases h), Or.inl rfl⟩
      · exact hQk
    · intro h0; rw [if_pos h0]
  have h3 : K = 0 ∨ K = 1 ∨ K = 2 := by omega
  refine ⟨1 + K, G, 1 + V, if K = 2 then 0 else 1 + B, Q1, ⟨by omega, lG, by omega, ?_, hQ1l, hQ1k⟩, fun w => ?_⟩
  · rcases h3 with rfl | rfl | rfl
    · have := hQ10 rfl
      simp [askMay, isLogletN, maxValN, this]; omega
    · simp [askMay, isLogletN, maxValN]; omega
    · simp [askMay, isLogletN, maxValN]; omega
  · clear hQk hQ1k ht hQl hQ1l hQ10
    have wK1 : IntKind.i64.wrap (zk.tmod 3 + 3) = zk.tmod 3 + 3 := by rw [IntKind.wrap_i64]; omega
    have wG1 : IntKind.i64.wrap (zg.tmod 2 + 2) = zg.tmod 2 + 2 := by rw [IntKind.wrap_i64]; omega
    have wV1 : IntKind.i64.wrap (zv.tmod 2 + 2) = zv.tmod 2 + 2 := by rw [IntKind.wrap_i64]; omega
    have wB1 : IntKind.i64.wrap (zb.tmod 20 + 20) = zb.tmod 20 + 20 := by rw [IntKind.wrap_i64]; omega
    unfold askV
    by_cases hlen : 100 < len
    · rw [if_pos hlen] at hQ
      have c100 : 100 ≤ cap := by omega
      rcases h3 with rfl | rfl | rfl
      all_goals
        go_enter Tryz.func32, Tryz.ntmps32
        go_wp2_with fail
        refine bodyPost_ret (ret_ref Tryz.results32 _ _ (w.heap.size + 1) _ _ _ _ _ _ _ rfl (last2 _ _ _ _)) rfl ⟨rfl, below2 _ _ _⟩
    · rw [if_neg hlen] at hQ
      have hlen' : ¬ (100 : Int) < (len : Int) := by omega
      rcases h3 with rfl | rfl | rfl
      all_goals
        go_enter Tryz.func32, Tryz.ntmps32
        go_wp2_with fail
        refine bodyPost_ret (ret_ref Tryz.results32 _ _ (w.heap.size + 1) _ _ _ _ _ _ _ rfl (last2 _ _ _ _)) rfl ⟨rfl, below2 _ _ _⟩
end Go.Proofs.YtmiibakbcogolaaGreat.Ac
