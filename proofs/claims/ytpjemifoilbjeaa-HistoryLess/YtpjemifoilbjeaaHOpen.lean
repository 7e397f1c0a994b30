/- How acts, and the document's calls, that came in are read. -/
import Derived.Test.YtpjemifoilbjeaaHRot
import Derived.Test.YtpjemifoilbjeaaAOpenN
namespace Go.Proofs.Ytpjemifoilbjeaa
open Go.RowKit Hy
open Go.ChangeShapes Go.WideShapes Go.ChangeAt

variable {H : Type} {enc : TypeId × Value → H} {W : World}
theorem Try.bytesHC : Try.prog.bytesOf 35 = 72 := by kernel_rfl
theorem Try.bytesHA : Try.prog.bytesOf 45 = 24 := by kernel_rfl
theorem Try.cellsHB : Try.prog.cellsOf 4 = 1 := by kernel_rfl
theorem Try.cellsHI : Try.prog.cellsOf 3 = 1 := by kernel_rfl
theorem Try.cellsHS : Try.prog.cellsOf 9 = 1 := by kernel_rfl
theorem Try.cellsHN : Try.prog.cellsOf 32 = 1 := by kernel_rfl
theorem Try.cellsHC : Try.prog.cellsOf 35 = 7 := by kernel_rfl
theorem Try.cellsHA : Try.prog.cellsOf 45 = 4 := by kernel_rfl
theorem list4h {α : Type} {cs : List α} (h : cs.length = 4) : ∃ c0 c1 c2 c3, cs = [c0, c1, c2, c3] := by
  match cs, h with
  | [c0, c1, c2, c3], _ => exact ⟨c0, c1, c2, c3, rfl⟩
theorem list7h {α : Type} {cs : List α} (h : cs.length = 7) : ∃ c0 c1 c2 c3 c4 c5 c6, cs = [c0, c1, c2, c3, c4, c5, c6] := by
  match cs, h with
  | [c0, c1, c2, c3, c4, c5, c6], _ => exact ⟨c0, c1, c2, c3, c4, c5, c6, rfl⟩
theorem trod4h {P : Program} {t : TypeId} {f0 f1 f2 f3 : Field} {fuel : Nat} {cs : List Value} {x : DataW H × List MemPlace} (ht : P.underlying t = some (.struct #[f0, f1, f2, f3])) (h : DataW.trod enc P W 0 (fun _ => true) true fuel t cs = some x) :
    ∃ y0 y1 y2 y3 n, cs.length = P.cellsOf t ∧ DataW.trod enc P W 0 (fun _ => true) true n f0.type ((cs.drop f0.offset).take (P.cellsOf f0.type)) = some y0 ∧ DataW.trod enc P W 0 (fun _ => true) true n f1.type ((cs.drop f1.offset).take (P.cellsOf f1.type)) = some y1 ∧ DataW.trod enc P W 0 (fun _ => true) true n f2.type ((cs.drop f2.offset).take (P.cellsOf f2.type)) = some y2 ∧ DataW.trod enc P W 0 (fun _ => true) true n f3.type ((cs.drop f3.offset).take (P.cellsOf f3.type)) = some y3 := by
  obtain ⟨xs, n, _, rfl, hl, hlen, hf⟩ := DataW.trod_struct ht h
  obtain ⟨y0, y1, y2, y3, rfl⟩ := list4h (hlen.trans rfl)
  exact ⟨y0, y1, y2, y3, n, hl, by simpa using hf 0 f0 rfl, by simpa using hf 1 f1 rfl, by simpa using hf 2 f2 rfl, by simpa using hf 3 f3 rfl⟩
theorem trod7h {P : Program} {t : TypeId} {f0 f1 f2 f3 f4 f5 f6 : Field} {fuel : Nat} {cs : List Value} {x : DataW H × List MemPlace} (ht : P.underlying t = some (.struct #[f0, f1, f2, f3, f4, f5, f6])) (h : DataW.trod enc P W 0 (fun _ => true) true fuel t cs = some x) :
    ∃ y0 y1 y2 y3 y4 y5 y6 n, x.1 = .agg [y0.1, y1.1, y2.1, y3.1, y4.1, y5.1, y6.1] ∧ cs.length = P.cellsOf t ∧ DataW.trod enc P W 0 (fun _ => true) true n f0.type ((cs.drop f0.offset).take (P.cellsOf f0.type)) = some y0 ∧ DataW.trod enc P W 0 (fun _ => true) true n f1.type ((cs.drop f1.offset).take (P.cellsOf f1.type)) = some y1 ∧ DataW.trod enc P W 0 (fun _ => true) true n f2.type ((cs.drop f2.offset).take (P.cellsOf f2.type)) = some y2 ∧ DataW.trod enc P W 0 (fun _ => true) true n f3.type ((cs.drop f3.offset).take (P.cellsOf f3.type)) = some y3 ∧ DataW.trod enc P W 0 (fun _ => true) true n f4.type ((cs.drop f4.offset).take (P.cellsOf f4.type)) = some y4 ∧ DataW.trod enc P W 0 (fun _ => true) true n f5.type ((cs.drop f5.offset).take (P.cellsOf f5.type)) = some y5 ∧ DataW.trod enc P W 0 (fun _ => true) true n f6.type ((cs.drop f6.offset).take (P.cellsOf f6.type)) = some y6 := by
  obtain ⟨xs, n, _, rfl, hl, hlen, hf⟩ := DataW.trod_struct ht h
  obtain ⟨y0, y1, y2, y3, y4, y5, y6, rfl⟩ := list7h (hlen.trans rfl)
  exact ⟨y0, y1, y2, y3, y4, y5, y6, n, by simp, hl, by simpa using hf 0 f0 rfl, by simpa using hf 1 f1 rfl, by simpa using hf 2 f2 rfl, by simpa using hf 3 f3 rfl, by simpa using hf 4 f4 rfl, by simpa using hf 5 f5 rfl, by simpa using hf 6 f6 rfl⟩
theorem weights_7h (t0 t1 t2 t3 t4 t5 t6 : TypeId) (d0 d1 d2 d3 d4 d5 d6 : DataW H) (m : Nat) (h : m ∈ d6.weights Try.prog t6) : m ∈ DataW.weightsEach Try.prog [t0, t1, t2, t3, t4, t5, t6] [d0, d1, d2, d3, d4, d5, d6] := by
  simp only [DataW.weightsEach, List.mem_append]
  simp [h]
theorem weights_allH (e : TypeId) (l : List (DataW H)) (d : DataW H) (hd : d ∈ l) (n : Nat) (hn : n ∈ d.weights Try.prog e) : n ∈ DataW.weightsAll Try.prog e l := by
  induction l with
  | nil => cases hd
  | cons x l ih =>
    rw [DataW.weightsAll, List.mem_append]
    rcases List.mem_cons.1 hd with rfl | h
    · exact Or.inl hn
    · exact Or.inr (ih h)
/-- Texts inside. -/
theorem open_textsH {n : Nat} {v : Value} {x : DataW H × List MemPlace} (h : DataW.trod enc Try.prog W 0 (fun _ => true) true n 32 [v] = some x) (hd : ∀ m ∈ x.1.weights Try.prog 32, m ≤ 140737488351232) :
    ∃ (l : List Nm) (s : Sl), v = .slice s.ad s.m s.c ∧ ArgK kS W l s.ad s.m s.c ∧ s.m * 16 ≤ 140737488351232 ∧ ∀ nm ∈ l, nm.length ≤ maxLen := by
  rcases open_strings Try.underlying32 Try.underlying9 (by kernel_rfl) h with ⟨hcs, hx⟩ | ⟨a, l, c, ss, hcs, _, hl, hm, hz, hx, hcell, hwz⟩
  · simp only [List.cons.injEq, and_true] at hcs
    exact ⟨[], sl0, hcs, ⟨rfl, fun _ => ⟨rfl, rfl⟩, Nat.le_refl _, by show 0 ≤ maxLen; unfold maxLen; omega, Or.inl rfl⟩, by show 0 * 16 ≤ _; omega, fun nm h => by cases h⟩
  · simp only [List.cons.injEq, and_true] at hcs
    simp only [if_true] at hz
    have hx1 : x.1 = .slice (strs (ss.take l)) (strs (ss.drop l)) := congrArg Prod.fst hx
    have hw : c * 16 ≤ 140737488351232 := by
      apply hd
      rw [hx1, DataW.weights, Try.underlying32]
      simp only [List.mem_cons]
      left
      rw [Try.bytesAS]
      congr 1
      simp only [strs, List.length_map, List.length_take, List.length_drop]
      omega
    refine ⟨(ss.take l).map (fun s => s.data.toList), ⟨some a, l, c⟩, hcs, ⟨by simp; omega, (fun e => by cases e), hl, hm, ?_⟩, by show l * 16 ≤ _; omega, fun nm hn => ?_⟩
    · by_cases h0 : l = 0
      · exact Or.inl (by rw [h0]; simp)
      · right
        obtain ⟨b, off, spot⟩ := a
        have hc0 := hcell 0 (by omega)
        have hspot : spot = none := by simpa [Addr.add] using World.cell?_spot hc0
        subst hspot
        have hb : b < W.heap.size := by
          rcases Nat.lt_or_ge b W.heap.size with h | h
          · exact h
          · simp [Addr.add, World.cell?, Array.getElem?_eq_none h] at hc0
        refine ⟨b, off, rfl, hb, ?_⟩
        intro i hi cc hcc
        rw [List.length_map, List.length_take] at hi
        have h1 : kS.sz = 1 := rfl
        obtain rfl : cc = 0 := by omega
        have e := hcell i (by omega)
        rw [addr_add] at e
        rw [h1, Nat.mul_one, Nat.add_zero, e]
        have hiz : i < ss.length := by omega
        show _ = some (Value.string (nmS (((ss.take l).map (fun s => s.data.toList)).getD i [])))
        simp only [List.getD_eq_getElem?_getD, List.getElem?_map, List.getElem?_take, List.getElem?_eq_getElem hiz, if_pos (show i < l by omega), Option.getD_some, Option.map_some, nm_of]
    · obtain ⟨s, hs, rfl⟩ := List.mem_map.1 hn
      have := hwz s (List.mem_of_mem_take hs)
      simpa using this
/-- One call. -/
theorem open_callH {n : Nat} {cs : List Value} {x : DataW H × List MemPlace} (h : DataW.trod enc Try.prog W 0 (fun _ => true) true n 35 cs = some x) (hd : ∀ m ∈ x.1.weights Try.prog 35, m ≤ 140737488351232) :
    ∃ y : HcA, cs = kR.V y ∧ Small y.1 ∧ ArgK kS W y.1.vals y.2.ad y.2.m y.2.c ∧ y.2.m * 16 ≤ 140737488351232 ∧ (-9223372036854775808 ≤ y.1.off ∧ y.1.off ≤ 9223372036854775807) ∧ (-9223372036854775808 ≤ y.1.bg ∧ y.1.bg ≤ 9223372036854775807) ∧ (-9223372036854775808 ≤ y.1.en ∧ y.1.en ≤ 9223372036854775807) := by
  obtain ⟨y0, y1, y2, y3, y4, y5, y6, m, hx, hl, f0, f1, f2, f3, f4, f5, f6⟩ := trod7h Try.underlying35 h
  rw [Try.cellsHC] at hl
  obtain ⟨c0, c1, c2, c3, c4, c5, c6, rfl⟩ := list7h hl
  simp only [Try.cellsHB, Try.cellsHI, Try.cellsHS, Try.cellsHN, List.drop_zero, List.drop_succ_cons, List.take_succ_cons, List.take_zero] at f0 f1 f2 f3 f4 f5 f6
  obtain ⟨b0, e0, -⟩ := DataW.trod_bool Try.underlying4 f0
  obtain ⟨b1, e1, -⟩ := DataW.trod_bool Try.underlying4 f1
  obtain ⟨n2, e2, -, w2⟩ := DataW.trod_int Try.underlying3 f2
  obtain ⟨n3, e3, -, w3⟩ := DataW.trod_int Try.underlying3 f3
  obtain ⟨n4, e4, -, w4⟩ := DataW.trod_int Try.underlying3 f4
  obtain ⟨s5, e5, -, w5⟩ := DataW.trod_string Try.underlying9 f5
  simp only [List.cons.injEq, and_true] at e0 e1 e2 e3 e4 e5
  subst e0 e1 e2 e3 e4 e5
  obtain ⟨l, sl, rfl, q1, q2, q3⟩ := open_textsH f6 (fun k hk => hd k (by
    rw [hx, DataW.weights, Try.underlying35]
    exact weights_7h _ _ _ _ _ _ _ _ _ _ _ _ _ _ k hk))
  have g2 := i64_wf w2
  have g3 := i64_wf w3
  have g4 := i64_wf w4
  refine ⟨(⟨b0, b1, n2, n3, n4, s5.data.toList, l⟩, sl), ?_, ⟨by simpa using w5, q3⟩, q1, q2, g4, g2, g3⟩
  show _ = [Value.bool b0, .bool b1, .int .i64 n2, .int .i64 n3, .int .i64 n4, .string (nmS s5.data.toList), .slice sl.ad sl.m sl.c]
  rw [nm_of]
theorem open_actH {n : Nat} {cs : List Value} {x : DataW H × List MemPlace} (h : DataW.trod enc Try.prog W 0 (fun _ => true) true n 45 cs = some x) : ∃ y : Ac, cs = kAc.V y := by
  obtain ⟨y0, y1, y2, y3, m, hl, f0, f1, f2, f3⟩ := trod4h Try.underlying45 h
  rw [Try.cellsHA] at hl
  obtain ⟨c0, c1, c2, c3, rfl⟩ := list4h hl
  simp only [Try.cellsHB, Try.cellsHI, List.drop_zero, List.drop_succ_cons, List.take_succ_cons, List.take_zero] at f0 f1 f2 f3
  obtain ⟨b0, e0, -⟩ := DataW.trod_bool Try.underlying4 f0
  obtain ⟨b1, e1, -⟩ := DataW.trod_bool Try.underlying4 f1
  obtain ⟨n2, e2, -, w2⟩ := DataW.trod_int Try.underlying3 f2
  obtain ⟨n3, e3, -, w3⟩ := DataW.trod_int Try.underlying3 f3
  simp only [List.cons.injEq, and_true] at e0 e1 e2 e3
  subst e0 e1 e2 e3
  exact ⟨⟨b0, b1, n2, n3⟩, rfl⟩
/-- A slice of structs of one kind, each read by a rule of its own. -/
theorem open_rowH {α : Type} [Inhabited α] {K : Kd α} (hK : K.fit) {P : α → Prop} {ad : Option Addr} {len cap : Nat} {d : DataW H} {p : List MemPlace} (hS : Try.prog.underlying K.S = some (.slice K.T)) (hcells : Try.prog.cellsOf K.T = K.sz) (hbytes : Try.prog.bytesOf K.T = K.bytes)
    (one : ∀ {n : Nat} {cs : List Value} {x : DataW H × List MemPlace}, DataW.trod enc Try.prog W 0 (fun _ => true) true n K.T cs = some x → (∀ m ∈ x.1.weights Try.prog K.T, m ≤ 140737488351232) → ∃ y : α, cs = K.V y ∧ P y)
    (h : DataW.Trod enc Try.prog W 0 (fun _ => true) true K.S (.slice ad len cap) d p) (hd : ∀ m ∈ d.weights Try.prog K.S, m ≤ 140737488351232) :
    ∃ A, ArgK K W A ad len cap ∧ len * K.bytes ≤ 140737488351232 ∧ ∀ y ∈ A, P y := by
  obtain ⟨fuel, hf⟩ := h
  have hf' : DataW.trod enc Try.prog W 0 (fun _ => true) true fuel K.S [.slice ad len cap] = some (d, p) := hf
  rcases Go.Deep.open_slice hS hf' with ⟨hcs, -⟩ | ⟨a, l', c', m, n', D, Pl, hcs, _, hl, hm, hmm, hx, hV⟩
  · simp only [List.cons.injEq, and_true] at hcs
    cases hcs
    exact ⟨[], ⟨rfl, fun _ => ⟨rfl, rfl⟩, Nat.le_refl _, by unfold maxLen; omega, Or.inl rfl⟩, by simp, (fun y hy => by cases hy)⟩
  · simp only [List.cons.injEq, and_true] at hcs
    cases hcs
    simp only [if_true] at hmm
    subst hmm
    rw [hcells] at hV
    have hx1 := congrArg Prod.fst hx
    simp only at hx1
    have hw : (len + (m - len)) * K.bytes ≤ 140737488351232 := by
      apply hd
      rw [hx1, DataW.weights, hS]
      simp only [List.mem_cons, List.length_map, List.length_range]
      exact Or.inl (by rw [hbytes])
    have hw2 : ∀ i, i < len → ∀ k ∈ (D i).weights Try.prog K.T, k ≤ 140737488351232 := by
      intro i hi k hk
      apply hd
      rw [hx1, DataW.weights, hS]
      simp only [List.mem_cons, List.mem_append]
      exact Or.inr (Or.inl (weights_allH _ _ (D i) (List.mem_map.2 ⟨i, List.mem_range.2 hi, rfl⟩) k hk))
    have each : ∀ i, i < len → ∃ y : α, (∀ c, c < K.sz → W.cell? (a.add (i * K.sz + c)) = (K.V y)[c]?) ∧ P y := by
      intro i hi
      obtain ⟨cs', h1, h2⟩ := hV i (by omega)
      obtain ⟨y, rfl, hq⟩ := one h2 (hw2 i hi)
      obtain ⟨_, _, hcell⟩ := World.cells?_some h1
      refine ⟨y, fun c hc => ?_, hq⟩
      have e0 := hcell c (by have := hK.len y; simp; omega)
      rw [Go.Deep.add_add] at e0
      simpa using e0
    obtain ⟨f, hf⟩ := @Go.Deep.choose_lt α ⟨K.z⟩ _ _ each
    have hat : ∀ i, i < len → ((List.range len).map f).getD i K.z = f i := fun i hi => by rw [List.getD_eq_getElem?_getD, List.getElem?_map, List.getElem?_range hi]; rfl
    have hlB : ((List.range len).map f).length = len := by simp
    refine ⟨(List.range len).map f, ⟨hlB, (fun e => by cases e), hl, hm, ?_⟩, Nat.le_trans (Nat.mul_le_mul_right _ (by omega)) hw, fun y hy => ?_⟩
    · by_cases h0 : len = 0
      · exact Or.inl (by rw [h0]; rfl)
      · right
        obtain ⟨b, off, spot⟩ := a
        have hp := hK.pos
        have hc0 : W.cell? (Addr.add ⟨b, off, spot⟩ (0 * K.sz + 0)) = some ((K.V (f 0))[0]'(by have := hK.len (f 0); omega)) := by rw [(hf 0 (by omega)).1 0 hp]; exact List.getElem?_eq_getElem _
        have hspot : spot = none := by simpa [Addr.add] using World.cell?_spot hc0
        subst hspot
        have hb : b < W.heap.size := by
          rcases Nat.lt_or_ge b W.heap.size with h | h
          · exact h
          · simp [Addr.add, World.cell?, Array.getElem?_eq_none h] at hc0
        refine ⟨b, off, rfl, hb, fun i hi cc hcc => ?_⟩
        rw [hlB] at hi
        have e0 := (hf i hi).1 cc hcc
        rw [addr_add] at e0
        rw [hat i hi, Nat.add_assoc, e0]
    · obtain ⟨i, hi, rfl⟩ := List.mem_map.1 hy
      exact (hf i (List.mem_range.1 hi)).2
theorem open_actsH {ad : Option Addr} {len cap : Nat} {d : DataW H} {p : List MemPlace} (h : DataW.Trod enc Try.prog W 0 (fun _ => true) true 39 (.slice ad len cap) d p) (hd : ∀ m ∈ d.weights Try.prog 39, m ≤ 140737488351232) :
    ∃ A, ArgK kAc W A ad len cap ∧ len * 24 ≤ 140737488351232 := by
  obtain ⟨A, h1, h2, -⟩ := @open_rowH H enc W Ac ⟨⟨false, false, 0, 0⟩⟩ kAc kAc_ok.tofit (fun _ => True) ad len cap d p Try.underlying39 Try.cellsHA Try.bytesHA (fun h1 _ => by obtain ⟨y, hy⟩ := open_actH h1; exact ⟨y, hy, trivial⟩) h hd
  exact ⟨A, h1, h2⟩
theorem open_callsH {ad : Option Addr} {len cap : Nat} {d : DataW H} {p : List MemPlace} (h : DataW.Trod enc Try.prog W 0 (fun _ => true) true 22 (.slice ad len cap) d p) (hd : ∀ m ∈ d.weights Try.prog 22, m ≤ 140737488351232) :
    ∃ A, HV kR W A ad len cap ∧ len * 72 ≤ 140737488351232 ∧ ∀ y ∈ A, y.2.m * 16 ≤ 140737488351232 ∧ (-9223372036854775808 ≤ y.1.off ∧ y.1.off ≤ 9223372036854775807) ∧ (-9223372036854775808 ≤ y.1.bg ∧ y.1.bg ≤ 9223372036854775807) ∧ (-9223372036854775808 ≤ y.1.en ∧ y.1.en ≤ 9223372036854775807) := by
  obtain ⟨A, h1, h2, h3⟩ := @open_rowH H enc W HcA ⟨hz0⟩ kR kR_ok.tofit (fun y => Small y.1 ∧ ArgK kS W y.1.vals y.2.ad y.2.m y.2.c ∧ y.2.m * 16 ≤ 140737488351232 ∧ (-9223372036854775808 ≤ y.1.off ∧ y.1.off ≤ 9223372036854775807) ∧ (-9223372036854775808 ≤ y.1.bg ∧ y.1.bg ≤ 9223372036854775807) ∧ (-9223372036854775808 ≤ y.1.en ∧ y.1.en ≤ 9223372036854775807)) ad len cap d p Try.underlying22 Try.cellsHC Try.bytesHC (fun h1 h2 => open_callH h1 h2) h hd
  exact ⟨A, HV.of h1 (fun x hx => ⟨(h3 x hx).2.1, (h3 x hx).1⟩), h2, fun y hy => (h3 y hy).2.2⟩
theorem open_intsH {ad : Option Addr} {len cap : Nat} {d : DataW H} {p : List MemPlace} (h : DataW.Trod enc Try.prog W 0 (fun _ => true) true 40 (.slice ad len cap) d p) (hd : ∀ m ∈ d.weights Try.prog 40, m ≤ 140737488351232) :
    ∃ l, ArgK kZ W l ad len cap := by
  obtain ⟨fuel, hf⟩ := h
  have hf' : DataW.trod enc Try.prog W 0 (fun _ => true) true fuel 40 [.slice ad len cap] = some (d, p) := hf
  obtain ⟨ns, s, e, h1, -⟩ := open_intsA hf' hd
  cases e
  exact ⟨ns, h1⟩
end Go.Proofs.Ytpjemifoilbjeaa
