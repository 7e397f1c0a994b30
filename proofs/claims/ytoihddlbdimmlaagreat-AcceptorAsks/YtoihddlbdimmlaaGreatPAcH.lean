/- How an Ask (of the document's package) that came in is read. sameAsk of the statements of layer 8. Put and Get of Asks, the program's and the document's, as functions over plain data (P802). -/
import Derived.Test.YtoihddlbdimmlaaGreatOpen
import Derived.Deep.Slices
import Derived.OpenShut
import Derived.Test.YtoihddlbdimmlaaGreatPAcB
import Derived.Test.YtoihddlbdimmlaaGreatAcGetA
import Derived.Test.YtoihddlbdimmlaaGreatPAcQ
import Derived.Test.YtoihddlbdimmlaaGreatPAcF
namespace Go.Proofs.YtoihddlbdimmlaaGreat.Ac
open Go.RowKit
open Go.ChangeShapes Go.WideShapes Go.ChangeAt

theorem array5 {α : Type} {cs : Array α} (h : cs.size = 5) : ∃ c0 c1 c2 c3 c4, cs = #[c0, c1, c2, c3, c4] := by
  obtain ⟨l⟩ := cs
  match l, h with
  | [c0, c1, c2, c3, c4], _ => exact ⟨c0, c1, c2, c3, c4, rfl⟩
theorem list5 {α : Type} {cs : List α} (h : cs.length = 5) : ∃ c0 c1 c2 c3 c4, cs = [c0, c1, c2, c3, c4] := by
  match cs, h with
  | [c0, c1, c2, c3, c4], _ => exact ⟨c0, c1, c2, c3, c4, rfl⟩
theorem cells5I : Tryz.prog.cellsOf 3 = 1 := by kernel_rfl
theorem cells5L : Tryz.prog.cellsOf 22 = 1 := by kernel_rfl
theorem cellsAsk : Tryz.prog.cellsOf 24 = 5 := by kernel_rfl
variable {H : Type} {enc : TypeId × Value → H} {W : World}
theorem trod5 {P : Program} {t : TypeId} {f0 f1 f2 f3 f4 : Field} {fuel : Nat} {cs : List Value} {x : DataW H × List MemPlace} (ht : P.underlying t = some (.struct #[f0, f1, f2, f3, f4])) (h : DataW.trod enc P W 0 (fun _ => true) true fuel t cs = some x) :
    ∃ y0 y1 y2 y3 y4 n, x.1 = .agg [y0.1, y1.1, y2.1, y3.1, y4.1] ∧ DataW.trod enc P W 0 (fun _ => true) true n f0.type ((cs.drop f0.offset).take (P.cellsOf f0.type)) = some y0 ∧
      DataW.trod enc P W 0 (fun _ => true) true n f1.type ((cs.drop f1.offset).take (P.cellsOf f1.type)) = some y1 ∧ DataW.trod enc P W 0 (fun _ => true) true n f2.type ((cs.drop f2.offset).take (P.cellsOf f2.type)) = some y2 ∧
      DataW.trod enc P W 0 (fun _ => true) true n f3.type ((cs.drop f3.offset).take (P.cellsOf f3.type)) = some y3 ∧ DataW.trod enc P W 0 (fun _ => true) true n f4.type ((cs.drop f4.offset).take (P.cellsOf f4.type)) = some y4 := by
  obtain ⟨xs, n, _, rfl, _, hlen, hf⟩ := DataW.trod_struct ht h
  obtain ⟨y0, y1, y2, y3, y4, rfl⟩ := list5 (hlen.trans rfl)
  exact ⟨y0, y1, y2, y3, y4, n, by simp, by simpa using hf 0 f0 rfl, by simpa using hf 1 f1 rfl, by simpa using hf 2 f2 rfl, by simpa using hf 3 f3 rfl, by simpa using hf 4 f4 rfl⟩
theorem open_data {n : Nat} {v : Value} {x : DataW H × List MemPlace} (h : DataW.trod enc Tryz.prog W 0 (fun _ => true) true n 22 [v] = some x)
    (hd : ∀ m ∈ x.1.weights Tryz.prog 22, m ≤ 140737488351232) :
    ∃ ad len cap l, v = .slice ad len cap ∧ Part.ok W ⟨ad, len, cap, l⟩ ∧ len ≤ cap ∧ cap ≤ 140737488351232 := by
  obtain ⟨ad, len, cap, rfl⟩ : ∃ ad len cap, v = .slice ad len cap := by
    rcases open_ints Tryz.underlying22 Tryz.underlying5 (by kernel_rfl) h with ⟨hcs, -⟩ | ⟨a, len, cap, zs, hcs, -⟩
    · simp only [List.cons.injEq, and_true] at hcs; exact ⟨_, _, _, hcs⟩
    · simp only [List.cons.injEq, and_true] at hcs; exact ⟨_, _, _, hcs⟩
  obtain ⟨l, h1, h2, h3⟩ := open_bytes (d := x.1) (p := x.2) ⟨n, h⟩ (fun elems spare e => by
    have q := hd ((elems.length + spare.length) * 1) (by
      rw [e, DataW.weights, Tryz.underlying22]
      simp only [List.mem_cons]
      exact Or.inl (by rw [Tryz.bytes5]))
    omega)
  exact ⟨ad, len, cap, l, rfl, h1, h2, h3⟩
theorem weights_five (t0 t1 t2 t3 t4 : TypeId) (d0 d1 d2 d3 d4 : DataW H) (m : Nat) (h : m ∈ d4.weights Tryz.prog t4) : m ∈ DataW.weightsEach Tryz.prog [t0, t1, t2, t3, t4] [d0, d1, d2, d3, d4] := by
  simp only [DataW.weightsEach, List.mem_append]
  simp [h]
set_option maxRecDepth 100000 in
theorem open_ask {r : Reach} {b0 : Nat} {v : Value} {d : DataW H} {p : List MemPlace} (hv : Value.okWide Tryz.prog W r b0 24 v) (h : DataW.Trod enc Tryz.prog W 0 (fun _ => true) true 24 v d p)
    (hd : ∀ m ∈ d.weights Tryz.prog 24, m ≤ 140737488351232) :
    ∃ e t s u ad len cap l, v = .agg #[.int .i64 e, .int .i64 t, .int .i64 s, .int .i64 u, .slice ad len cap] ∧ Part.ok W ⟨ad, len, cap, l⟩ ∧ len ≤ cap ∧ cap ≤ 140737488351232 := by
  obtain ⟨cs, rfl, hsz⟩ := okWide_struct Tryz.underlying24 hv
  rw [cellsAsk] at hsz
  obtain ⟨c0, c1, c2, c3, c4, rfl⟩ := array5 hsz
  obtain ⟨fuel, hf⟩ := h
  obtain ⟨y0, y1, y2, y3, y4, m, hx, f0, f1, f2, f3, f4⟩ := trod5 Tryz.underlying24 hf
  simp only [Value.cells, cells5I, cells5L, List.drop_zero, List.drop_succ_cons, List.take_succ_cons, List.take_zero] at f0 f1 f2 f3 f4
  obtain ⟨e, e0, -⟩ := DataW.trod_int Tryz.underlying3 f0
  obtain ⟨t, e1, -⟩ := DataW.trod_int Tryz.underlying3 f1
  obtain ⟨s, e2, -⟩ := DataW.trod_int Tryz.underlying3 f2
  obtain ⟨u, e3, -⟩ := DataW.trod_int Tryz.underlying3 f3
  simp only [List.cons.injEq, and_true] at e0 e1 e2 e3
  subst e0 e1 e2 e3
  simp only at hx
  obtain ⟨ad, len, cap, l, rfl, h1, h2, h3⟩ := open_data f4 (fun m hm => hd m (by
    rw [hx, DataW.weights, Tryz.underlying24]
    exact weights_five _ _ _ _ _ _ _ _ _ _ m hm))
  exact ⟨e, t, s, u, ad, len, cap, l, rfl, h1, h2, h3⟩
end Go.Proofs.YtoihddlbdimmlaaGreat.Ac
namespace Go.Proofs.YtoihddlbdimmlaaGreat.Ac
open Go.RowKit Crcm

set_option maxRecDepth 100000 in
set_option maxHeartbeats 4000000 in
theorem sameAsk_yes (k g v b : Int) (ad ad' : Option Addr) (len cap len' cap' : Nat) (l : List Nat) (w : World) (h1 : Part.ok w ⟨ad, len, cap, l⟩) (h2 : Part.ok w ⟨ad', len', cap', l⟩) :
    Calls Tryz.prog 20 #[askV k g v b ad len cap, askV k g v b ad' len' cap'] w fun x w' => x = .returned (.bool true) ∧ Below w.heap.size w w' := by
  have hb : Below w.heap.size w ((w.alloc (.cells #[.int .i64 k, .int .i64 g, .int .i64 v, .int .i64 b, .slice ad len cap] 30)).alloc (.cells #[.int .i64 k, .int .i64 g, .int .i64 v, .int .i64 b, .slice ad' len' cap'] 24)) := ((Below.refl _ w).alloc (Nat.le_refl _) _).alloc (by simp) _
  have k1 := conv_any (h1.later hb).2.2 len cap h1.1
  have k2 := conv_any (h2.later hb).2.2 len' cap' h2.1
  simp only at k1 k2
  generalize bstr l = tx at *
  have HB : Hid (Below w.heap.size w ((w.alloc (.cells #[.int .i64 k, .int .i64 g, .int .i64 v, .int .i64 b, .slice ad len cap] 30)).alloc (.cells #[.int .i64 k, .int .i64 g, .int .i64 v, .int .i64 b, .slice ad' len' cap'] 24))) := hb
  clear hb h1 h2
  unfold askV
  go_enter Tryz.func20, Tryz.ntmps20
  go_wp2
  go_ret
  exact ⟨by simp, HB.out⟩
end Go.Proofs.YtoihddlbdimmlaaGreat.Ac
namespace Go.Proofs.YtoihddlbdimmlaaGreat.Ac
open Go.RowKit Crcm

/-- P802. -/
def putAskN (k g v b : Int) (l : List Nat) : Int × List Nat := if askMay k g v b l.length = true then (0, frameBs 3 (askN k.toNat g.toNat v.toNat b.toNat l)) else (1, [])
structure AskR where
  e : Int
  k : Int
  g : Int
  v : Int
  b : Int
  d : List Nat
def getAskN (l : List Nat) : AskR := if unpackN l 3 19 = true ∧ askIn (bodyAt l 0) = true then ⟨0, (askK (bodyAt l 0) : Nat), (askG (bodyAt l 0) : Nat), (askW (bodyAt l 0) : Nat), (askB (bodyAt l 0) : Nat), (bodyAt l 0).drop 19⟩ else ⟨22, 0, 0, 0, 0, []⟩
theorem own_lc {w : World} {base : Nat} {ad : Option Addr} {len cap : Nat} {l : List Nat} (h : Own w base (.slice ad len cap) l) : len ≤ cap := by
  obtain ⟨ad', cap', e, -, h2, -⟩ := h.slice _ rfl
  injection e with e1 e2 e3
  omega
theorem nil_ok (w : World) : Part.ok w ⟨none, 0, 0, []⟩ := ⟨rfl, fun _ => ⟨rfl, rfl⟩, fun _ h => (by cases h), Or.inl rfl⟩
theorem askMay_nat {k g v b : Int} {n : Nat} (h : askMay k g v b n = true) : ∃ a b' c d : Nat, k = a ∧ g = b' ∧ v = c ∧ b = d := by
  have h0 := h
  unfold askMay at h0
  simp only [Bool.and_eq_true, decide_eq_true_eq, isLogletN_iff] at h0
  exact ⟨k.toNat, g.toNat, v.toNat, b.toNat, by omega, by omega, by omega, by omega⟩
/-- P802: what PutAsk told, GetAsk tells back. -/
theorem put_get {k g v b : Int} {l : List Nat} (h : askMay k g v b l.length = true) : getAskN (frameBs 3 (askN k.toNat g.toNat v.toNat b.toNat l)) = ⟨0, k, g, v, b, l⟩ := by
  obtain ⟨k, g, v, b, rfl, rfl, rfl, rfl⟩ := askMay_nat h
  obtain ⟨hk, hg, hv, hb, hl⟩ := askMay_lim h
  simp only [Int.toNat_natCast]
  obtain ⟨u1, u2⟩ := unpack_frame 3 19 (askN k g v b l) (by omega) (by rw [askN_length]; omega) (by rw [askN_length]; omega)
  obtain ⟨e1, e2, e3, e4, e5⟩ := askBack k g v b l (by omega) hg hv hb
  have hi : askIn (askN k g v b l) = true := by
    unfold askIn
    rw [e1, e2, e3, e4, askN_length, show 19 + l.length - 19 = l.length by omega]
    exact h
  unfold getAskN
  rw [u2, if_pos ⟨u1, hi⟩, e1, e2, e3, e4, e5]
/-- What a Put answers. -/
def PPostA (r : Int × List Nat) (w : World) (x : Ending) (w' : World) : Prop := ∃ q : Part, x = .returned (.tuple #[.slice q.ad q.len q.cap, .int .i64 r.1]) ∧ Hid (q.l = r.2 ∧ q.ok w') ∧ Hid (q.len ≤ q.cap) ∧ Below w.heap.size w w'
def QPostA (r : Int × List Nat) (w : World) (x : Ending) (w' : World) : Prop := ∃ q : Part, x = .returned (.tuple #[.slice q.ad q.len q.cap, .int .i64 r.1]) ∧ Hid (q.l = r.2 ∧ q.ok w') ∧ Below w.heap.size w w'
theorem putAsk_any (k g v b : Int) (ad : Option Addr) (len cap : Nat) (l : List Nat) (w : World) (ha : Part.ok w ⟨ad, len, cap, l⟩) : Calls Tryz.prog 9 #[askV k g v b ad len cap] w (PPostA (putAskN k g v b l) w) := by
  have hl : l.length = len := ha.1
  unfold putAskN
  cases hm : askMay k g v b l.length with
  | true =>
    rw [if_pos rfl]
    rw [hl] at hm
    obtain ⟨a, b, c, d, rfl, rfl, rfl, rfl⟩ := askMay_nat hm
    refine (putAsk_ok a b c d ad len cap l w hm ha).mono ?_
    rintro x w' ⟨q, rfl, e1, k1, o1, b1⟩
    exact ⟨q, rfl, (show Hid _ from ⟨e1.out, k1.out⟩), (show Hid _ from own_lc o1.out), b1⟩
  | false =>
    rw [if_neg (by simp)]
    rw [hl] at hm
    refine (putAsk_no k g v b ad len cap w hm).mono ?_
    rintro x w' ⟨rfl, b1⟩
    exact ⟨⟨none, 0, 0, []⟩, rfl, (show Hid _ from ⟨rfl, nil_ok _⟩), (show Hid _ from Nat.le_refl _), b1⟩
theorem refPutAsk_any (k g v b : Int) (ad : Option Addr) (len cap : Nat) (l : List Nat) (w : World) (ha : Part.ok w ⟨ad, len, cap, l⟩) : Calls Tryz.prog 11 #[askV k g v b ad len cap] w (QPostA (putAskN k g v b l) w) := by
  have hl : l.length = len := ha.1
  unfold putAskN
  cases hm : askMay k g v b l.length with
  | true =>
    rw [if_pos rfl]
    rw [hl] at hm
    obtain ⟨a, b, c, d, rfl, rfl, rfl, rfl⟩ := askMay_nat hm
    refine (refPutAsk_ok a b c d ad len cap l w hm ha).mono ?_
    rintro x w' ⟨q, rfl, e1, k1, b1⟩
    exact ⟨q, rfl, (show Hid _ from ⟨e1.out, k1.out⟩), b1⟩
  | false =>
    rw [if_neg (by simp)]
    rw [hl] at hm
    refine (refPutAsk_no k g v b ad len cap w hm).mono ?_
    rintro x w' ⟨rfl, b1⟩
    exact ⟨⟨none, 0, 0, []⟩, rfl, (show Hid _ from ⟨rfl, nil_ok _⟩), b1⟩
/-- What a Get answers. -/
def GPostA (r : AskR) (w : World) (x : Ending) (w' : World) : Prop := ∃ q : Part, x = .returned (.tuple #[.agg #[.int .i64 r.k, .int .i64 r.g, .int .i64 r.v, .int .i64 r.b, .slice q.ad q.len q.cap], .int .i64 r.e]) ∧ Hid (q.l = r.d ∧ q.ok w') ∧ Below w.heap.size w w'
theorem getAsk_any (ad : Option Addr) (len cap : Nat) (l : List Nat) (w : World) (hp : Part.ok w ⟨ad, len, cap, l⟩) (hlc : len ≤ cap) (hm : len ≤ 1000000000000000) : Calls Tryz.prog 15 #[.slice ad len cap] w (GPostA (getAskN l) w) := by
  unfold getAskN
  cases hu : unpackN l 3 19 with
  | false =>
    rw [if_neg (by simp)]
    refine (getAsk_no1 ad len cap l w hp hlc hm hu).mono ?_
    rintro x w' ⟨rfl, b1⟩
    exact ⟨⟨none, 0, 0, []⟩, rfl, (show Hid _ from ⟨rfl, nil_ok _⟩), b1⟩
  | true =>
    refine (getAsk_frame ad len cap l w (askIn (bodyAt l 0)) hp hlc hm hu rfl).mono ?_
    rintro x w' ⟨⟨h1, rfl⟩ | ⟨h1, g, o, n, c, rfl, h3, h4, h5⟩, hb⟩
    · rw [h1, if_neg (by simp)]
      exact ⟨⟨none, 0, 0, []⟩, rfl, (show Hid _ from ⟨rfl, nil_ok _⟩), hb⟩
    · rw [h1, if_pos ⟨rfl, rfl⟩]
      exact ⟨⟨some ⟨g, o, none⟩, n, c, _⟩, rfl, (show Hid _ from ⟨rfl, h3⟩), hb⟩
theorem refGetAsk_any (ad : Option Addr) (len cap : Nat) (l : List Nat) (w : World) (hp : Part.ok w ⟨ad, len, cap, l⟩) (hlc : len ≤ cap) (hm : len ≤ 1000000000000000) : Calls Tryz.prog 16 #[.slice ad len cap] w (GPostA (getAskN l) w) := by
  unfold getAskN
  cases hu : unpackN l 3 19 with
  | false =>
    rw [if_neg (by simp)]
    refine (refGetAsk_no1 ad len cap l w hp hlc hm hu).mono ?_
    rintro x w' ⟨rfl, b1⟩
    exact ⟨⟨none, 0, 0, []⟩, rfl, (show Hid _ from ⟨rfl, nil_ok _⟩), b1⟩
  | true =>
    refine (refGetAsk_frame ad len cap l w hp hlc hm hu).mono ?_
    rintro x w' ⟨⟨h1, rfl⟩ | ⟨h1, q, rfl, h3, h4⟩, hb⟩
    · rw [h1, if_neg (by simp)]
      exact ⟨⟨none, 0, 0, []⟩, rfl, (show Hid _ from ⟨rfl, nil_ok _⟩), hb⟩
    · rw [h1, if_pos ⟨rfl, rfl⟩]
      exact ⟨q, rfl, (show Hid _ from ⟨h3, h4⟩), hb⟩
theorem part_bytes {w : World} {q : Part} {l : List Nat} (h : q.l = l ∧ q.ok w) : Row w q.ad l ∧ l.length = q.len := by
  obtain ⟨e, k⟩ := h
  subst e
  exact ⟨k.2.2, k.1⟩
theorem conv_part {w : World} {q : Part} {l : List Nat} (h : q.l = l ∧ q.ok w) : (convert 22 9 (.slice q.ad q.len q.cap)).run Tryz.prog w = .ok (.string (bstr l)) w := conv_any (part_bytes h).1 q.len q.cap (part_bytes h).2
theorem part_is {w : World} {q : Part} {l : List Nat} (h : q.l = l ∧ q.ok w) : Part.ok w ⟨q.ad, q.len, q.cap, l⟩ := by
  obtain ⟨e, k⟩ := h
  subst e
  exact k
theorem part_la {w w' : World} {q : Part} {l : List Nat} (h : q.l = l ∧ q.ok w) (hb : Below w.heap.size w w') : q.l = l ∧ q.ok w' := ⟨h.1, h.2.later hb⟩
theorem getAsk_at {re rk rg rv rb : Int} {rd l : List Nat} (hr : getAskN l = ⟨re, rk, rg, rv, rb, rd⟩) (hlen : l.length ≤ 1000000000000000) (W : World) (q : Part) (hq : q.l = l ∧ q.ok W) (hlc : q.len ≤ q.cap) :
    Calls Tryz.prog 15 #[.slice q.ad q.len q.cap] W fun x w' => ∃ s : Part, x = .returned (.tuple #[.agg #[.int .i64 rk, .int .i64 rg, .int .i64 rv, .int .i64 rb, .slice s.ad s.len s.cap], .int .i64 re]) ∧ Hid (s.l = rd ∧ s.ok w') ∧ Below W.heap.size W w' := by
  have h := getAsk_any q.ad q.len q.cap l W (part_is hq) hlc (by rw [← (part_is hq).1]; exact hlen)
  rw [hr] at h
  exact h
theorem refGetAsk_at {re rk rg rv rb : Int} {rd l : List Nat} (hr : getAskN l = ⟨re, rk, rg, rv, rb, rd⟩) (hlen : l.length ≤ 1000000000000000) (W : World) (ad : Option Addr) (len cap : Nat) (hq : Part.ok W ⟨ad, len, cap, l⟩) (hlc : len ≤ cap) :
    Calls Tryz.prog 16 #[.slice ad len cap] W fun x w' => ∃ s : Part, x = .returned (.tuple #[.agg #[.int .i64 rk, .int .i64 rg, .int .i64 rv, .int .i64 rb, .slice s.ad s.len s.cap], .int .i64 re]) ∧ Hid (s.l = rd ∧ s.ok w') ∧ Below W.heap.size W w' := by
  have h := refGetAsk_any ad len cap l W hq hlc (by have e : l.length = len := hq.1; omega)
  rw [hr] at h
  exact h
theorem putAsk_at {z k g v b : Int} {l d : List Nat} (hr : putAskN k g v b l = (z, d)) (W : World) (q : Part) (hq : q.l = l ∧ q.ok W) :
    Calls Tryz.prog 9 #[.agg #[.int .i64 k, .int .i64 g, .int .i64 v, .int .i64 b, .slice q.ad q.len q.cap]] W fun x w' => ∃ s : Part, x = .returned (.tuple #[.slice s.ad s.len s.cap, .int .i64 z]) ∧ Hid (s.l = d ∧ s.ok w') ∧ Hid (s.len ≤ s.cap) ∧ Below W.heap.size W w' := by
  have h := putAsk_any k g v b q.ad q.len q.cap l W (part_is hq)
  rw [hr] at h
  exact h
theorem refPutAsk_at {z k g v b : Int} {l d : List Nat} (hr : putAskN k g v b l = (z, d)) (W : World) (ad : Option Addr) (len cap : Nat) (hq : Part.ok W ⟨ad, len, cap, l⟩) :
    Calls Tryz.prog 11 #[.agg #[.int .i64 k, .int .i64 g, .int .i64 v, .int .i64 b, .slice ad len cap]] W fun x w' => ∃ s : Part, x = .returned (.tuple #[.slice s.ad s.len s.cap, .int .i64 z]) ∧ Hid (s.l = d ∧ s.ok w') ∧ Below W.heap.size W w' := by
  have h := refPutAsk_any k g v b ad len cap l W hq
  rw [hr] at h
  exact h
theorem own8_at (k g v b : Int) (ad : Option Addr) (len cap : Nat) (l : List Nat) (w : World) (ha : Part.ok w ⟨ad, len, cap, l⟩) (hlen : len ≤ 140737488351232) :
    Calls Tryz.prog 10 #[.agg #[.int .i64 k, .int .i64 g, .int .i64 v, .int .i64 b, .slice ad len cap]] w fun x w' => ∃ q : Part, x = .returned (.agg #[.int .i64 k, .int .i64 g, .int .i64 v, .int .i64 b, .slice q.ad q.len q.cap]) ∧ Hid (q.l = l ∧ q.ok w') ∧ Below w.heap.size w w' := own8_any k g v b ad len cap l w ha hlen
theorem sameAsk_at (k g v b : Int) (q q' : Part) (l : List Nat) (w : World) (h1 : q.l = l ∧ q.ok w) (h2 : q'.l = l ∧ q'.ok w) :
    Calls Tryz.prog 20 #[.agg #[.int .i64 k, .int .i64 g, .int .i64 v, .int .i64 b, .slice q.ad q.len q.cap], .agg #[.int .i64 k, .int .i64 g, .int .i64 v, .int .i64 b, .slice q'.ad q'.len q'.cap]] w fun x w' => x = .returned (.bool true) ∧ Below w.heap.size w w' :=
  sameAsk_yes k g v b q.ad q'.ad q.len q.cap q'.len q'.cap l w (part_is h1) (part_is h2)
theorem sameAsk_to (k g v b : Int) (q : Part) (ad : Option Addr) (len cap : Nat) (l : List Nat) (w : World) (h1 : q.l = l ∧ q.ok w) (h2 : Part.ok w ⟨ad, len, cap, l⟩) :
    Calls Tryz.prog 20 #[.agg #[.int .i64 k, .int .i64 g, .int .i64 v, .int .i64 b, .slice q.ad q.len q.cap], .agg #[.int .i64 k, .int .i64 g, .int .i64 v, .int .i64 b, .slice ad len cap]] w fun x w' => x = .returned (.bool true) ∧ Below w.heap.size w w' :=
  sameAsk_yes k g v b q.ad ad q.len q.cap len cap l w (part_is h1) h2
/-- What 'append([]byte{}, x...)' is, with its room. -/
theorem own_partc {w : World} {base n : Nat} {v : Value} {L : List Nat} (h : w.ownsRow base 5 1 v n (L.map bv)) (hx : ∀ x ∈ L, x < 256) (hn : L.length = n) : ∃ p : Part, v = .slice p.ad p.len p.cap ∧ (p.l = L ∧ p.ok w) ∧ p.len ≤ p.cap := by
  subst hn
  have o : Own w base v L := ⟨hx, h⟩
  obtain ⟨p, rfl, h1, h2⟩ := Part.of_own o
  exact ⟨p, rfl, ⟨h1, h2⟩, own_lc o⟩
end Go.Proofs.YtoihddlbdimmlaaGreat.Ac
