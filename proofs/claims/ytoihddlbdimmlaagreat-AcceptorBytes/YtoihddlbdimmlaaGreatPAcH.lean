/- How an Ask (of the document's package) that came in is read. sameAsk of the statements of layer 8. Put and Get of Asks, the program's and the document's, as functions over plain data (P802). How an Answer (of the document's package) that came in is read. sameAnswer of the statements of layer 8. GetAnswer of package acceptor, over any bytes. Put and Get of Answers, the program's and the document's, as functions over plain data (P802). -/
import Derived.Test.YtoihddlbdimmlaaGreatOpen
import Derived.Deep.Slices
import Derived.OpenShut
import Derived.Test.YtoihddlbdimmlaaGreatPAcB
import Derived.Test.YtoihddlbdimmlaaGreatAcGetA
import Derived.Test.YtoihddlbdimmlaaGreatPAcQ
import Derived.Test.YtoihddlbdimmlaaGreatPAcF
import Derived.Test.YtoihddlbdimmlaaGreatPAcT
namespace Go.Proofs.YtoihddlbdimmlaaGreat.Ac
open Go.RowKit
open Go.ChangeShapes Go.WideShapes Go.ChangeAt

theorem array5 {α : Type} {cs : Array α} (h : cs.size = 5) : ∃ c0 c1 c2 c3 c4, cs = #[c0, c1, c2, c3, c4] := by
  obtain ⟨l⟩ := cs
  match l, h with
  | [c0, c1, c2, c3, c4], _ => exact ⟨c0, c1, c2, c3, c4, rfl⟩
theorem list5 {α : Type} {cs : List α} (h : cs.length = 5) : ∃ c0 c1 c2 c3 c4, cs = [c0, c1, c2, c3, c4] := by
  match cs, h with
  | [c0, c1, c2, c3, c4], _ => exact ⟨c0, c1, c2, c3, c4, rfl⟩
theorem cells5I : Tryz.prog.cellsOf 3 = 1 := by kernel_rfl
theorem cells5L : Tryz.prog.cellsOf 22 = 1 := by kernel_rfl
theorem cellsAsk : Tryz.prog.cellsOf 24 = 5 := by kernel_rfl
variable {H : Type} {enc : TypeId × Value → H} {W : World}
theorem trod5 {P : Program} {t : TypeId} {f0 f1 f2 f3 f4 : Field} {fuel : Nat} {cs : List Value} {x : DataW H × List MemPlace} (ht : P.underlying t = some (.struct #[f0, f1, f2, f3, f4])) (h : DataW.trod enc P W 0 (fun _ => true) true fuel t cs = some x) :
    ∃ y0 y1 y2 y3 y4 n, x.1 = .agg [y0.1, y1.1, y2.1, y3.1, y4.1] ∧ DataW.trod enc P W 0 (fun _ => true) true n f0.type ((cs.drop f0.offset).take (P.cellsOf f0.type)) = some y0 ∧
      DataW.trod enc P W 0 (fun _ => true) true n f1.type ((cs.drop f1.offset).take (P.cellsOf f1.type)) = some y1 ∧ DataW.trod enc P W 0 (fun _ => true) true n f2.type ((cs.drop f2.offset).take (P.cellsOf f2.type)) = some y2 ∧
      DataW.trod enc P W 0 (fun _ => true) true n f3.type ((cs.drop f3.offset).take (P.cellsOf f3.type)) = some y3 ∧ DataW.trod enc P W 0 (fun _ => true) true n f4.type ((cs.drop f4.offset).take (P.cellsOf f4.type)) = some y4 := by
  obtain ⟨xs, n, _, rfl, _, hlen, hf⟩ := DataW.trod_struct ht h
  obtain ⟨y0, y1, y2, y3, y4, rfl⟩ := list5 (hlen.trans rfl)
  exact ⟨y0, y1, y2, y3, y4, n, by simp, by simpa using hf 0 f0 rfl, by simpa using hf 1 f1 rfl, by simpa using hf 2 f2 rfl, by simpa using hf 3 f3 rfl, by simpa using hf 4 f4 rfl⟩
theorem open_data {n : Nat} {v : Value} {x : DataW H × List MemPlace} (h : DataW.trod enc Tryz.prog W 0 (fun _ => true) true n 22 [v] = some x)
    (hd : ∀ m ∈ x.1.weights Tryz.prog 22, m ≤ 140737488351232) :
    ∃ ad len cap l, v = .slice ad len cap ∧ Part.ok W ⟨ad, len, cap, l⟩ ∧ len ≤ cap ∧ cap ≤ 140737488351232 := by
  obtain ⟨ad, len, cap, rfl⟩ : ∃ ad len cap, v = .slice ad len cap := by
    rcases open_ints Tryz.underlying22 Tryz.underlying5 (by kernel_rfl) h with ⟨hcs, -⟩ | ⟨a, len, cap, zs, hcs, -⟩
    · simp only [List.cons.injEq, and_true] at hcs; exact ⟨_, _, _, hcs⟩
    · simp only [List.cons.injEq, and_true] at hcs; exact ⟨_, _, _, hcs⟩
  obtain ⟨l, h1, h2, h3⟩ := open_bytes (d := x.1) (p := x.2) ⟨n, h⟩ (fun elems spare e => by
    have q := hd ((elems.length + spare.length) * 1) (by
      rw [e, DataW.weights, Tryz.underlying22]
      simp only [List.mem_cons]
      exact Or.inl (by rw [Tryz.bytes5]))
    omega)
  exact ⟨ad, len, cap, l, rfl, h1, h2, h3⟩
theorem weights_five (t0 t1 t2 t3 t4 : TypeId) (d0 d1 d2 d3 d4 : DataW H) (m : Nat) (h : m ∈ d4.weights Tryz.prog t4) : m ∈ DataW.weightsEach Tryz.prog [t0, t1, t2, t3, t4] [d0, d1, d2, d3, d4] := by
  simp only [DataW.weightsEach, List.mem_append]
  simp [h]
set_option maxRecDepth 100000 in
theorem open_ask {r : Reach} {b0 : Nat} {v : Value} {d : DataW H} {p : List MemPlace} (hv : Value.okWide Tryz.prog W r b0 24 v) (h : DataW.Trod enc Tryz.prog W 0 (fun _ => true) true 24 v d p)
    (hd : ∀ m ∈ d.weights Tryz.prog 24, m ≤ 140737488351232) :
    ∃ e t s u ad len cap l, v = .agg #[.int .i64 e, .int .i64 t, .int .i64 s, .int .i64 u, .slice ad len cap] ∧ Part.ok W ⟨ad, len, cap, l⟩ ∧ len ≤ cap ∧ cap ≤ 140737488351232 := by
  obtain ⟨cs, rfl, hsz⟩ := okWide_struct Tryz.underlying24 hv
  rw [cellsAsk] at hsz
  obtain ⟨c0, c1, c2, c3, c4, rfl⟩ := array5 hsz
  obtain ⟨fuel, hf⟩ := h
  obtain ⟨y0, y1, y2, y3, y4, m, hx, f0, f1, f2, f3, f4⟩ := trod5 Tryz.underlying24 hf
  simp only [Value.cells, cells5I, cells5L, List.drop_zero, List.drop_succ_cons, List.take_succ_cons, List.take_zero] at f0 f1 f2 f3 f4
  obtain ⟨e, e0, -⟩ := DataW.trod_int Tryz.underlying3 f0
  obtain ⟨t, e1, -⟩ := DataW.trod_int Tryz.underlying3 f1
  obtain ⟨s, e2, -⟩ := DataW.trod_int Tryz.underlying3 f2
  obtain ⟨u, e3, -⟩ := DataW.trod_int Tryz.underlying3 f3
  simp only [List.cons.injEq, and_true] at e0 e1 e2 e3
  subst e0 e1 e2 e3
  simp only at hx
  obtain ⟨ad, len, cap, l, rfl, h1, h2, h3⟩ := open_data f4 (fun m hm => hd m (by
    rw [hx, DataW.weights, Tryz.underlying24]
    exact weights_five _ _ _ _ _ _ _ _ _ _ m hm))
  exact ⟨e, t, s, u, ad, len, cap, l, rfl, h1, h2, h3⟩
end Go.Proofs.YtoihddlbdimmlaaGreat.Ac
namespace Go.Proofs.YtoihddlbdimmlaaGreat.Ac
open Go.RowKit Crcm

set_option maxRecDepth 100000 in
set_option maxHeartbeats 4000000 in
theorem sameAsk_yes (k g v b : Int) (ad ad' : Option Addr) (len cap len' cap' : Nat) (l : List Nat) (w : World) (h1 : Part.ok w ⟨ad, len, cap, l⟩) (h2 : Part.ok w ⟨ad', len', cap', l⟩) :
    Calls Tryz.prog 20 #[askV k g v b ad len cap, askV k g v b ad' len' cap'] w fun x w' => x = .returned (.bool true) ∧ Below w.heap.size w w' := by
  have hb : Below w.heap.size w ((w.alloc (.cells #[.int .i64 k, .int .i64 g, .int .i64 v, .int .i64 b, .slice ad len cap] 30)).alloc (.cells #[.int .i64 k, .int .i64 g, .int .i64 v, .int .i64 b, .slice ad' len' cap'] 24)) := ((Below.refl _ w).alloc (Nat.le_refl _) _).alloc (by simp) _
  have k1 := conv_any (h1.later hb).2.2 len cap h1.1
  have k2 := conv_any (h2.later hb).2.2 len' cap' h2.1
  simp only at k1 k2
  generalize bstr l = tx at *
  have HB : Hid (Below w.heap.size w ((w.alloc (.cells #[.int .i64 k, .int .i64 g, .int .i64 v, .int .i64 b, .slice ad len cap] 30)).alloc (.cells #[.int .i64 k, .int .i64 g, .int .i64 v, .int .i64 b, .slice ad' len' cap'] 24))) := hb
  clear hb h1 h2
  unfold askV
  go_enter Tryz.func20, Tryz.ntmps20
  go_wp2
  go_ret
  exact ⟨by simp, HB.out⟩
end Go.Proofs.YtoihddlbdimmlaaGreat.Ac
namespace Go.Proofs.YtoihddlbdimmlaaGreat.Ac
open Go.RowKit Crcm

/-- P802. -/
def putAskN (k g v b : Int) (l : List Nat) : Int × List Nat := if askMay k g v b l.length = true then (0, frameBs 3 (askN k.toNat g.toNat v.toNat b.toNat l)) else (1, [])
structure AskR where
  e : Int
  k : Int
  g : Int
  v : Int
  b : Int
  d : List Nat
def getAskN (l : List Nat) : AskR := if unpackN l 3 19 = true ∧ askIn (bodyAt l 0) = true then ⟨0, (askK (bodyAt l 0) : Nat), (askG (bodyAt l 0) : Nat), (askW (bodyAt l 0) : Nat), (askB (bodyAt l 0) : Nat), (bodyAt l 0).drop 19⟩ else ⟨22, 0, 0, 0, 0, []⟩
theorem own_lc {w : World} {base : Nat} {ad : Option Addr} {len cap : Nat} {l : List Nat} (h : Own w base (.slice ad len cap) l) : len ≤ cap := by
  obtain ⟨ad', cap', e, -, h2, -⟩ := h.slice _ rfl
  injection e with e1 e2 e3
  omega
theorem nil_ok (w : World) : Part.ok w ⟨none, 0, 0, []⟩ := ⟨rfl, fun _ => ⟨rfl, rfl⟩, fun _ h => (by cases h), Or.inl rfl⟩
theorem askMay_nat {k g v b : Int} {n : Nat} (h : askMay k g v b n = true) : ∃ a b' c d : Nat, k = a ∧ g = b' ∧ v = c ∧ b = d := by
  have h0 := h
  unfold askMay at h0
  simp only [Bool.and_eq_true, decide_eq_true_eq, isLogletN_iff] at h0
  exact ⟨k.toNat, g.toNat, v.toNat, b.toNat, by omega, by omega, by omega, by omega⟩
/-- P802: what PutAsk told, GetAsk tells back. -/
theorem put_get {k g v b : Int} {l : List Nat} (h : askMay k g v b l.length = true) : getAskN (frameBs 3 (askN k.toNat g.toNat v.toNat b.toNat l)) = ⟨0, k, g, v, b, l⟩ := by
  obtain ⟨k, g, v, b, rfl, rfl, rfl, rfl⟩ := askMay_nat h
  obtain ⟨hk, hg, hv, hb, hl⟩ := askMay_lim h
  simp only [Int.toNat_natCast]
  obtain ⟨u1, u2⟩ := unpack_frame 3 19 (askN k g v b l) (by omega) (by rw [askN_length]; omega) (by rw [askN_length]; omega)
  obtain ⟨e1, e2, e3, e4, e5⟩ := askBack k g v b l (by omega) hg hv hb
  have hi : askIn (askN k g v b l) = true := by
    unfold askIn
    rw [e1, e2, e3, e4, askN_length, show 19 + l.length - 19 = l.length by omega]
    exact h
  unfold getAskN
  rw [u2, if_pos ⟨u1, hi⟩, e1, e2, e3, e4, e5]
/-- What a Put answers. -/
def PPostA (r : Int × List Nat) (w : World) (x : Ending) (w' : World) : Prop := ∃ q : Part, x = .returned (.tuple #[.slice q.ad q.len q.cap, .int .i64 r.1]) ∧ Hid (q.l = r.2 ∧ q.ok w') ∧ Hid (q.len ≤ q.cap) ∧ Below w.heap.size w w'
def QPostA (r : Int × List Nat) (w : World) (x : Ending) (w' : World) : Prop := ∃ q : Part, x = .returned (.tuple #[.slice q.ad q.len q.cap, .int .i64 r.1]) ∧ Hid (q.l = r.2 ∧ q.ok w') ∧ Below w.heap.size w w'
theorem putAsk_any (k g v b : Int) (ad : Option Addr) (len cap : Nat) (l : List Nat) (w : World) (ha : Part.ok w ⟨ad, len, cap, l⟩) : Calls Tryz.prog 9 #[askV k g v b ad len cap] w (PPostA (putAskN k g v b l) w) := by
  have hl : l.length = len := ha.1
  unfold putAskN
  cases hm : askMay k g v b l.length with
  | true =>
    rw [if_pos rfl]
    rw [hl] at hm
    obtain ⟨a, b, c, d, rfl, rfl, rfl, rfl⟩ := askMay_nat hm
    refine (putAsk_ok a b c d ad len cap l w hm ha).mono ?_
    rintro x w' ⟨q, rfl, e1, k1, o1, b1⟩
    exact ⟨q, rfl, (show Hid _ from ⟨e1.out, k1.out⟩), (show Hid _ from own_lc o1.out), b1⟩
  | false =>
    rw [if_neg (by simp)]
    rw [hl] at hm
    refine (putAsk_no k g v b ad len cap w hm).mono ?_
    rintro x w' ⟨rfl, b1⟩
    exact ⟨⟨none, 0, 0, []⟩, rfl, (show Hid _ from ⟨rfl, nil_ok _⟩), (show Hid _ from Nat.le_refl _), b1⟩
theorem refPutAsk_any (k g v b : Int) (ad : Option Addr) (len cap : Nat) (l : List Nat) (w : World) (ha : Part.ok w ⟨ad, len, cap, l⟩) : Calls Tryz.prog 11 #[askV k g v b ad len cap] w (QPostA (putAskN k g v b l) w) := by
  have hl : l.length = len := ha.1
  unfold putAskN
  cases hm : askMay k g v b l.length with
  | true =>
    rw [if_pos rfl]
    rw [hl] at hm
    obtain ⟨a, b, c, d, rfl, rfl, rfl, rfl⟩ := askMay_nat hm
    refine (refPutAsk_ok a b c d ad len cap l w hm ha).mono ?_
    rintro x w' ⟨q, rfl, e1, k1, b1⟩
    exact ⟨q, rfl, (show Hid _ from ⟨e1.out, k1.out⟩), b1⟩
  | false =>
    rw [if_neg (by simp)]
    rw [hl] at hm
    refine (refPutAsk_no k g v b ad len cap w hm).mono ?_
    rintro x w' ⟨rfl, b1⟩
    exact ⟨⟨none, 0, 0, []⟩, rfl, (show Hid _ from ⟨rfl, nil_ok _⟩), b1⟩
/-- What a Get answers. -/
def GPostA (r : AskR) (w : World) (x : Ending) (w' : World) : Prop := ∃ q : Part, x = .returned (.tuple #[.agg #[.int .i64 r.k, .int .i64 r.g, .int .i64 r.v, .int .i64 r.b, .slice q.ad q.len q.cap], .int .i64 r.e]) ∧ Hid (q.l = r.d ∧ q.ok w') ∧ Below w.heap.size w w'
theorem getAsk_any (ad : Option Addr) (len cap : Nat) (l : List Nat) (w : World) (hp : Part.ok w ⟨ad, len, cap, l⟩) (hlc : len ≤ cap) (hm : len ≤ 1000000000000000) : Calls Tryz.prog 15 #[.slice ad len cap] w (GPostA (getAskN l) w) := by
  unfold getAskN
  cases hu : unpackN l 3 19 with
  | false =>
    rw [if_neg (by simp)]
    refine (getAsk_no1 ad len cap l w hp hlc hm hu).mono ?_
    rintro x w' ⟨rfl, b1⟩
    exact ⟨⟨none, 0, 0, []⟩, rfl, (show Hid _ from ⟨rfl, nil_ok _⟩), b1⟩
  | true =>
    refine (getAsk_frame ad len cap l w (askIn (bodyAt l 0)) hp hlc hm hu rfl).mono ?_
    rintro x w' ⟨⟨h1, rfl⟩ | ⟨h1, g, o, n, c, rfl, h3, h4, h5⟩, hb⟩
    · rw [h1, if_neg (by simp)]
      exact ⟨⟨none, 0, 0, []⟩, rfl, (show Hid _ from ⟨rfl, nil_ok _⟩), hb⟩
    · rw [h1, if_pos ⟨rfl, rfl⟩]
      exact ⟨⟨some ⟨g, o, none⟩, n, c, _⟩, rfl, (show Hid _ from ⟨rfl, h3⟩), hb⟩
theorem refGetAsk_any (ad : Option Addr) (len cap : Nat) (l : List Nat) (w : World) (hp : Part.ok w ⟨ad, len, cap, l⟩) (hlc : len ≤ cap) (hm : len ≤ 1000000000000000) : Calls Tryz.prog 16 #[.slice ad len cap] w (GPostA (getAskN l) w) := by
  unfold getAskN
  cases hu : unpackN l 3 19 with
  | false =>
    rw [if_neg (by simp)]
    refine (refGetAsk_no1 ad len cap l w hp hlc hm hu).mono ?_
    rintro x w' ⟨rfl, b1⟩
    exact ⟨⟨none, 0, 0, []⟩, rfl, (show Hid _ from ⟨rfl, nil_ok _⟩), b1⟩
  | true =>
    refine (refGetAsk_frame ad len cap l w hp hlc hm hu).mono ?_
    rintro x w' ⟨⟨h1, rfl⟩ | ⟨h1, q, rfl, h3, h4⟩, hb⟩
    · rw [h1, if_neg (by simp)]
      exact ⟨⟨none, 0, 0, []⟩, rfl, (show Hid _ from ⟨rfl, nil_ok _⟩), hb⟩
    · rw [h1, if_pos ⟨rfl, rfl⟩]
      exact ⟨q, rfl, (show Hid _ from ⟨h3, h4⟩), hb⟩
theorem part_bytes {w : World} {q : Part} {l : List Nat} (h : q.l = l ∧ q.ok w) : Row w q.ad l ∧ l.length = q.len := by
  obtain ⟨e, k⟩ := h
  subst e
  exact ⟨k.2.2, k.1⟩
theorem conv_part {w : World} {q : Part} {l : List Nat} (h : q.l = l ∧ q.ok w) : (convert 22 9 (.slice q.ad q.len q.cap)).run Tryz.prog w = .ok (.string (bstr l)) w := conv_any (part_bytes h).1 q.len q.cap (part_bytes h).2
theorem part_is {w : World} {q : Part} {l : List Nat} (h : q.l = l ∧ q.ok w) : Part.ok w ⟨q.ad, q.len, q.cap, l⟩ := by
  obtain ⟨e, k⟩ := h
  subst e
  exact k
theorem part_la {w w' : World} {q : Part} {l : List Nat} (h : q.l = l ∧ q.ok w) (hb : Below w.heap.size w w') : q.l = l ∧ q.ok w' := ⟨h.1, h.2.later hb⟩
theorem getAsk_at {re rk rg rv rb : Int} {rd l : List Nat} (hr : getAskN l = ⟨re, rk, rg, rv, rb, rd⟩) (hlen : l.length ≤ 1000000000000000) (W : World) (q : Part) (hq : q.l = l ∧ q.ok W) (hlc : q.len ≤ q.cap) :
    Calls Tryz.prog 15 #[.slice q.ad q.len q.cap] W fun x w' => ∃ s : Part, x = .returned (.tuple #[.agg #[.int .i64 rk, .int .i64 rg, .int .i64 rv, .int .i64 rb, .slice s.ad s.len s.cap], .int .i64 re]) ∧ Hid (s.l = rd ∧ s.ok w') ∧ Below W.heap.size W w' := by
  have h := getAsk_any q.ad q.len q.cap l W (part_is hq) hlc (by rw [← (part_is hq).1]; exact hlen)
  rw [hr] at h
  exact h
theorem refGetAsk_at {re rk rg rv rb : Int} {rd l : List Nat} (hr : getAskN l = ⟨re, rk, rg, rv, rb, rd⟩) (hlen : l.length ≤ 1000000000000000) (W : World) (ad : Option Addr) (len cap : Nat) (hq : Part.ok W ⟨ad, len, cap, l⟩) (hlc : len ≤ cap) :
    Calls Tryz.prog 16 #[.slice ad len cap] W fun x w' => ∃ s : Part, x = .returned (.tuple #[.agg #[.int .i64 rk, .int .i64 rg, .int .i64 rv, .int .i64 rb, .slice s.ad s.len s.cap], .int .i64 re]) ∧ Hid (s.l = rd ∧ s.ok w') ∧ Below W.heap.size W w' := by
  have h := refGetAsk_any ad len cap l W hq hlc (by have e : l.length = len := hq.1; omega)
  rw [hr] at h
  exact h
theorem putAsk_at {z k g v b : Int} {l d : List Nat} (hr : putAskN k g v b l = (z, d)) (W : World) (q : Part) (hq : q.l = l ∧ q.ok W) :
    Calls Tryz.prog 9 #[.agg #[.int .i64 k, .int .i64 g, .int .i64 v, .int .i64 b, .slice q.ad q.len q.cap]] W fun x w' => ∃ s : Part, x = .returned (.tuple #[.slice s.ad s.len s.cap, .int .i64 z]) ∧ Hid (s.l = d ∧ s.ok w') ∧ Hid (s.len ≤ s.cap) ∧ Below W.heap.size W w' := by
  have h := putAsk_any k g v b q.ad q.len q.cap l W (part_is hq)
  rw [hr] at h
  exact h
theorem refPutAsk_at {z k g v b : Int} {l d : List Nat} (hr : putAskN k g v b l = (z, d)) (W : World) (ad : Option Addr) (len cap : Nat) (hq : Part.ok W ⟨ad, len, cap, l⟩) :
    Calls Tryz.prog 11 #[.agg #[.int .i64 k, .int .i64 g, .int .i64 v, .int .i64 b, .slice ad len cap]] W fun x w' => ∃ s : Part, x = .returned (.tuple #[.slice s.ad s.len s.cap, .int .i64 z]) ∧ Hid (s.l = d ∧ s.ok w') ∧ Below W.heap.size W w' := by
  have h := refPutAsk_any k g v b ad len cap l W hq
  rw [hr] at h
  exact h
theorem own8_at (k g v b : Int) (ad : Option Addr) (len cap : Nat) (l : List Nat) (w : World) (ha : Part.ok w ⟨ad, len, cap, l⟩) (hlen : len ≤ 140737488351232) :
    Calls Tryz.prog 10 #[.agg #[.int .i64 k, .int .i64 g, .int .i64 v, .int .i64 b, .slice ad len cap]] w fun x w' => ∃ q : Part, x = .returned (.agg #[.int .i64 k, .int .i64 g, .int .i64 v, .int .i64 b, .slice q.ad q.len q.cap]) ∧ Hid (q.l = l ∧ q.ok w') ∧ Below w.heap.size w w' := own8_any k g v b ad len cap l w ha hlen
theorem sameAsk_at (k g v b : Int) (q q' : Part) (l : List Nat) (w : World) (h1 : q.l = l ∧ q.ok w) (h2 : q'.l = l ∧ q'.ok w) :
    Calls Tryz.prog 20 #[.agg #[.int .i64 k, .int .i64 g, .int .i64 v, .int .i64 b, .slice q.ad q.len q.cap], .agg #[.int .i64 k, .int .i64 g, .int .i64 v, .int .i64 b, .slice q'.ad q'.len q'.cap]] w fun x w' => x = .returned (.bool true) ∧ Below w.heap.size w w' :=
  sameAsk_yes k g v b q.ad q'.ad q.len q.cap q'.len q'.cap l w (part_is h1) (part_is h2)
theorem sameAsk_to (k g v b : Int) (q : Part) (ad : Option Addr) (len cap : Nat) (l : List Nat) (w : World) (h1 : q.l = l ∧ q.ok w) (h2 : Part.ok w ⟨ad, len, cap, l⟩) :
    Calls Tryz.prog 20 #[.agg #[.int .i64 k, .int .i64 g, .int .i64 v, .int .i64 b, .slice q.ad q.len q.cap], .agg #[.int .i64 k, .int .i64 g, .int .i64 v, .int .i64 b, .slice ad len cap]] w fun x w' => x = .returned (.bool true) ∧ Below w.heap.size w w' :=
  sameAsk_yes k g v b q.ad ad q.len q.cap len cap l w (part_is h1) h2
/-- What 'append([]byte{}, x...)' is, with its room. -/
theorem own_partc {w : World} {base n : Nat} {v : Value} {L : List Nat} (h : w.ownsRow base 5 1 v n (L.map bv)) (hx : ∀ x ∈ L, x < 256) (hn : L.length = n) : ∃ p : Part, v = .slice p.ad p.len p.cap ∧ (p.l = L ∧ p.ok w) ∧ p.len ≤ p.cap := by
  subst hn
  have o : Own w base v L := ⟨hx, h⟩
  obtain ⟨p, rfl, h1, h2⟩ := Part.of_own o
  exact ⟨p, rfl, ⟨h1, h2⟩, own_lc o⟩
end Go.Proofs.YtoihddlbdimmlaaGreat.Ac
namespace Go.Proofs.YtoihddlbdimmlaaGreat.Ac
open Go.RowKit
open Go.ChangeShapes Go.WideShapes Go.ChangeAt

theorem array6 {α : Type} {cs : Array α} (h : cs.size = 6) : ∃ c0 c1 c2 c3 c4 c5, cs = #[c0, c1, c2, c3, c4, c5] := by
  obtain ⟨l⟩ := cs
  match l, h with
  | [c0, c1, c2, c3, c4, c5], _ => exact ⟨c0, c1, c2, c3, c4, c5, rfl⟩
theorem list6 {α : Type} {cs : List α} (h : cs.length = 6) : ∃ c0 c1 c2 c3 c4 c5, cs = [c0, c1, c2, c3, c4, c5] := by
  match cs, h with
  | [c0, c1, c2, c3, c4, c5], _ => exact ⟨c0, c1, c2, c3, c4, c5, rfl⟩
theorem cells6T : Tryz.prog.cellsOf 4 = 1 := by kernel_rfl
theorem cellsAns : Tryz.prog.cellsOf 26 = 6 := by kernel_rfl
variable {H : Type} {enc : TypeId × Value → H} {W : World}
theorem trod6 {P : Program} {t : TypeId} {f0 f1 f2 f3 f4 f5 : Field} {fuel : Nat} {cs : List Value} {x : DataW H × List MemPlace} (ht : P.underlying t = some (.struct #[f0, f1, f2, f3, f4, f5])) (h : DataW.trod enc P W 0 (fun _ => true) true fuel t cs = some x) :
    ∃ y0 y1 y2 y3 y4 y5 n, x.1 = .agg [y0.1, y1.1, y2.1, y3.1, y4.1, y5.1] ∧ DataW.trod enc P W 0 (fun _ => true) true n f0.type ((cs.drop f0.offset).take (P.cellsOf f0.type)) = some y0 ∧ DataW.trod enc P W 0 (fun _ => true) true n f1.type ((cs.drop f1.offset).take (P.cellsOf f1.type)) = some y1 ∧ DataW.trod enc P W 0 (fun _ => true) true n f2.type ((cs.drop f2.offset).take (P.cellsOf f2.type)) = some y2 ∧ DataW.trod enc P W 0 (fun _ => true) true n f3.type ((cs.drop f3.offset).take (P.cellsOf f3.type)) = some y3 ∧ DataW.trod enc P W 0 (fun _ => true) true n f4.type ((cs.drop f4.offset).take (P.cellsOf f4.type)) = some y4 ∧ DataW.trod enc P W 0 (fun _ => true) true n f5.type ((cs.drop f5.offset).take (P.cellsOf f5.type)) = some y5 := by
  obtain ⟨xs, n, _, rfl, _, hlen, hf⟩ := DataW.trod_struct ht h
  obtain ⟨y0, y1, y2, y3, y4, y5, rfl⟩ := list6 (hlen.trans rfl)
  exact ⟨y0, y1, y2, y3, y4, y5, n, by simp, by simpa using hf 0 f0 rfl, by simpa using hf 1 f1 rfl, by simpa using hf 2 f2 rfl, by simpa using hf 3 f3 rfl, by simpa using hf 4 f4 rfl, by simpa using hf 5 f5 rfl⟩
theorem weights_six (t0 t1 t2 t3 t4 t5 : TypeId) (d0 d1 d2 d3 d4 d5 : DataW H) (m : Nat) (h : m ∈ d5.weights Tryz.prog t5) : m ∈ DataW.weightsEach Tryz.prog [t0, t1, t2, t3, t4, t5] [d0, d1, d2, d3, d4, d5] := by
  simp only [DataW.weightsEach, List.mem_append]
  simp [h]
set_option maxRecDepth 100000 in
theorem open_answer {r : Reach} {b0 : Nat} {v : Value} {d : DataW H} {p : List MemPlace} (hv : Value.okWide Tryz.prog W r b0 26 v) (h : DataW.Trod enc Tryz.prog W 0 (fun _ => true) true 26 v d p)
    (hd : ∀ m ∈ d.weights Tryz.prog 26, m ≤ 140737488351232) :
    ∃ e t s u o ad len cap l, v = .agg #[.int .i64 e, .int .i64 t, .int .i64 s, .int .i64 u, .bool o, .slice ad len cap] ∧ Part.ok W ⟨ad, len, cap, l⟩ ∧ len ≤ cap ∧ cap ≤ 140737488351232 := by
  obtain ⟨cs, rfl, hsz⟩ := okWide_struct Tryz.underlying26 hv
  rw [cellsAns] at hsz
  obtain ⟨c0, c1, c2, c3, c4, c5, rfl⟩ := array6 hsz
  obtain ⟨fuel, hf⟩ := h
  obtain ⟨y0, y1, y2, y3, y4, y5, m, hx, f0, f1, f2, f3, f4, f5⟩ := trod6 Tryz.underlying26 hf
  simp only [Value.cells, cells5I, cells5L, cells6T, List.drop_zero, List.drop_succ_cons, List.take_succ_cons, List.take_zero] at f0 f1 f2 f3 f4 f5
  obtain ⟨e, e0, -⟩ := DataW.trod_int Tryz.underlying3 f0
  obtain ⟨t, e1, -⟩ := DataW.trod_int Tryz.underlying3 f1
  obtain ⟨s, e2, -⟩ := DataW.trod_int Tryz.underlying3 f2
  obtain ⟨u, e3, -⟩ := DataW.trod_int Tryz.underlying3 f3
  obtain ⟨o, e4, -⟩ := DataW.trod_bool Tryz.underlying4 f4
  simp only [List.cons.injEq, and_true] at e0 e1 e2 e3 e4
  subst e0 e1 e2 e3 e4
  simp only at hx
  obtain ⟨ad, len, cap, l, rfl, h1, h2, h3⟩ := open_data f5 (fun m hm => hd m (by
    rw [hx, DataW.weights, Tryz.underlying26]
    exact weights_six _ _ _ _ _ _ _ _ _ _ _ _ m hm))
  exact ⟨e, t, s, u, o, ad, len, cap, l, rfl, h1, h2, h3⟩
end Go.Proofs.YtoihddlbdimmlaaGreat.Ac
namespace Go.Proofs.YtoihddlbdimmlaaGreat.Ac
open Go.RowKit Crcm

set_option maxRecDepth 100000 in
set_option maxHeartbeats 8000000 in
theorem sameAnswer_yes (e v p b : Int) (s : Bool) (ad ad' : Option Addr) (len cap len' cap' : Nat) (l : List Nat) (w : World) (h1 : Part.ok w ⟨ad, len, cap, l⟩) (h2 : Part.ok w ⟨ad', len', cap', l⟩) :
    Calls Tryz.prog 21 #[ansV e v p b s ad len cap, ansV e v p b s ad' len' cap'] w fun x w' => x = .returned (.bool true) ∧ Below w.heap.size w w' := by
  obtain ⟨W0, hW0⟩ : ∃ W0, (w.alloc (.cells #[.int .i64 e, .int .i64 v, .int .i64 p, .int .i64 b, .bool s, .slice ad len cap] 36)).alloc (.cells #[.int .i64 e, .int .i64 v, .int .i64 p, .int .i64 b, .bool s, .slice ad' len' cap'] 26) = W0 := ⟨_, rfl⟩
  have hb : Below w.heap.size w W0.drew := by rw [← hW0]; exact (((Below.refl _ w).alloc (Nat.le_refl _) _).alloc (by simp) _).drew
  have X1 : Blk W0.drew w.heap.size #[.int .i64 e, .int .i64 v, .int .i64 p, .int .i64 b, .bool s, .slice ad len cap] 36 := by
    rw [← hW0]
    exact blk_below (blk_new _ w _) (((Below.refl (w.heap.size + 1) _).alloc (by simp) _).drew) (by omega)
  have X2 : Blk W0.drew (w.heap.size + 1) #[.int .i64 e, .int .i64 v, .int .i64 p, .int .i64 b, .bool s, .slice ad' len' cap'] 26 := by
    rw [← hW0]
    have h := blk_below (blk_new 26 (w.alloc (.cells #[.int .i64 e, .int .i64 v, .int .i64 p, .int .i64 b, .bool s, .slice ad len cap] 36)) #[.int .i64 e, .int .i64 v, .int .i64 p, .int .i64 b, .bool s, .slice ad' len' cap']) ((Below.refl (w.heap.size + 2) _).drew) (by simp)
    simpa using h
  have k1 := conv_any (h1.later hb).2.2 len cap h1.1
  have k2 := conv_any (h2.later hb).2.2 len' cap' h2.1
  simp only at k1 k2
  generalize bstr l = tx at *
  have HB : Hid (Below w.heap.size w W0.drew) := hb
  obtain ⟨⟨a0, a1, a2, a3, a4, a5⟩, -⟩ := blk6 X1
  obtain ⟨⟨b0, b1, b2, b3, b4, b5⟩, -⟩ := blk6 X2
  have HS : Hid (W0.drew.cell? ⟨w.heap.size, 0, none⟩ = some (.int .i64 e) ∧ W0.drew.cell? ⟨w.heap.size, 1, none⟩ = some (.int .i64 v) ∧ W0.drew.cell? ⟨w.heap.size, 2, none⟩ = some (.int .i64 p) ∧ W0.drew.cell? ⟨w.heap.size, 3, none⟩ = some (.int .i64 b) ∧ W0.drew.cell? ⟨w.heap.size, 4, none⟩ = some (.bool s) ∧ W0.drew.cell? ⟨w.heap.size, 5, none⟩ = some (.slice ad len cap) ∧ W0.drew.cell? ⟨w.heap.size + 1, 0, none⟩ = some (.int .i64 e) ∧ W0.drew.cell? ⟨w.heap.size + 1, 1, none⟩ = some (.int .i64 v) ∧ W0.drew.cell? ⟨w.heap.size + 1, 2, none⟩ = some (.int .i64 p) ∧ W0.drew.cell? ⟨w.heap.size + 1, 3, none⟩ = some (.int .i64 b) ∧ W0.drew.cell? ⟨w.heap.size + 1, 4, none⟩ = some (.bool s) ∧ W0.drew.cell? ⟨w.heap.size + 1, 5, none⟩ = some (.slice ad' len' cap') ∧ (convert 22 9 (.slice ad len cap)).run Tryz.prog W0.drew = .ok (.string tx) W0.drew ∧ (convert 22 9 (.slice ad' len' cap')).run Tryz.prog W0.drew = .ok (.string tx) W0.drew) := (show Hid _ from ⟨a0, a1, a2, a3, a4, a5, b0, b1, b2, b3, b4, b5, k1, k2⟩)
  clear hb h1 h2 X1 X2 k1 k2 a0 a1 a2 a3 a4 a5 b0 b1 b2 b3 b4 b5
  unfold ansV
  go_enter Tryz.func21, Tryz.ntmps21
  go_wp2_with fail
  go_region_held3 (fun W => W.cell? ⟨w.heap.size, 0, none⟩ = some (.int .i64 e) ∧ W.cell? ⟨w.heap.size, 1, none⟩ = some (.int .i64 v) ∧ W.cell? ⟨w.heap.size, 2, none⟩ = some (.int .i64 p) ∧ W.cell? ⟨w.heap.size, 3, none⟩ = some (.int .i64 b) ∧ W.cell? ⟨w.heap.size, 4, none⟩ = some (.bool s) ∧ W.cell? ⟨w.heap.size, 5, none⟩ = some (.slice ad len cap) ∧ W.cell? ⟨w.heap.size + 1, 0, none⟩ = some (.int .i64 e) ∧ W.cell? ⟨w.heap.size + 1, 1, none⟩ = some (.int .i64 v) ∧ W.cell? ⟨w.heap.size + 1, 2, none⟩ = some (.int .i64 p) ∧ W.cell? ⟨w.heap.size + 1, 3, none⟩ = some (.int .i64 b) ∧ W.cell? ⟨w.heap.size + 1, 4, none⟩ = some (.bool s) ∧ W.cell? ⟨w.heap.size + 1, 5, none⟩ = some (.slice ad' len' cap') ∧ (convert 22 9 (.slice ad len cap)).run Tryz.prog W = .ok (.string tx) W ∧ (convert 22 9 (.slice ad' len' cap')).run Tryz.prog W = .ok (.string tx) W)
    (exact HS.out)
    ((go_at_call 19; refine (num8_any _ _).mono ?_; rintro x w' ⟨rfl, hw'⟩; obtain rfl := hw'.symm))
  all_goals go_wp2
  all_goals go_ret
  all_goals exact ⟨by simp, HB.out⟩
end Go.Proofs.YtoihddlbdimmlaaGreat.Ac
namespace Go.Proofs.YtoihddlbdimmlaaGreat.Ac
open Go.RowKit Crcm

theorem tx_of (b : List Nat) : txV (b.drop 1) = askG b ∧ txP (b.drop 1) = askW b ∧ txB (b.drop 1) = askB b ∧ txL (b.drop 1) = ansS b ∧ (b.drop 1).drop 19 = b.drop 20 := by
  unfold txV txP txB txL askG askW askB ansS
  simp
theorem unpack_less {l : List Nat} (h : unpackN l 4 1 = false) : unpackN l 4 20 = false := by
  unfold unpackN at *
  simp only [decide_eq_false_iff_not] at *
  intro hh
  exact h ⟨hh.1, hh.2.1, hh.2.2.1, by omega⟩
set_option maxRecDepth 100000 in
set_option maxHeartbeats 4000000 in
theorem getAnswer_no1 (ad : Option Addr) (len cap : Nat) (l : List Nat) (w : World) (hp : Part.ok w ⟨ad, len, cap, l⟩) (hlc : len ≤ cap) (hm : len ≤ 1000000000000000) (h : unpackN l 4 1 = false) :
    Calls Tryz.prog 17 #[.slice ad len cap] w fun e w' => e = .returned (.tuple #[ansV 0 0 0 0 false none 0 0, .int .i64 22]) ∧ Below w.heap.size w w' := by
  have HB : Hid (Below w.heap.size w (w.alloc (.cells #[.int .i64 0, .int .i64 0, .int .i64 0, .int .i64 0, .bool false, .slice none 0 0] 36))) := hid ((Below.refl _ w).alloc (Nat.le_refl _) _)
  have Q := unpack_no (z := 4) (c := 1) ad len cap l 4 1 (w.alloc (.cells #[.int .i64 0, .int .i64 0, .int .i64 0, .int .i64 0, .bool false, .slice none 0 0] 36)) rfl rfl (hp.later HB.out) hlc hm h
  clear hp h hm hlc
  go_enter Tryz.func17, Tryz.ntmps17
  go_wp2_with (go_at_call 45; refine Q.mono ?_; rintro x W1 ⟨p, rfl, hb1⟩; have X : Hid (Blk W1 w.heap.size #[.int .i64 0, .int .i64 0, .int .i64 0, .int .i64 0, .bool false, .slice none 0 0] 36) := hid (blk_below (blk_new _ w _) hb1 (by simp)); obtain ⟨⟨c0, c1, c2, c3, c4, c5⟩, f0, f1, f2, f3, f4, f5⟩ := blk6 X.out; have hb2 : Hid (Below w.heap.size w W1) := hid (HB.out.trans (hb1.mono HB.out.size)); clear hb1)
  refine bodyPost_ret (ret_ans Tryz.results17 _ _ w.heap.size 0 0 0 0 false none 0 0 rfl (blk_set6 X.out _ _ _ _ _ _)) rfl ⟨rfl, ?_⟩
  exact set6_below hb2.out (Nat.le_refl _) _ _ _ _ _ _
set_option maxRecDepth 100000 in
set_option maxHeartbeats 8000000 in
theorem getAnswer_nox (ad : Option Addr) (len cap : Nat) (l : List Nat) (w : World) (e v p b : Nat) (sl : Bool) (hp : Part.ok w ⟨ad, len, cap, l⟩) (hlc : len ≤ cap) (hm : len ≤ 1000000000000000) (h : unpackN l 4 1 = true) (h20 : 20 ≤ (bodyAt l 0).length) (he : e = askK (bodyAt l 0)) (hv : v = askG (bodyAt l 0)) (hpp : p = askW (bodyAt l 0)) (hb : b = askB (bodyAt l 0)) (hsl : (((ansS (bodyAt l 0) : Nat) : Int) == 1) = sl) (hx2 : decide (((ansS (bodyAt l 0) : Nat) : Int) ≤ 1) = false) :
    Calls Tryz.prog 17 #[.slice ad len cap] w fun x w' => x = .returned (.tuple #[ansV 0 0 0 0 false none 0 0, .int .i64 22]) ∧ Below w.heap.size w w' := by
  have HB : Hid (Below w.heap.size w (w.alloc (.cells #[.int .i64 0, .int .i64 0, .int .i64 0, .int .i64 0, .bool false, .slice none 0 0] 36))) := hid ((Below.refl _ w).alloc (Nat.le_refl _) _)
  have Q := unpack_at (z := 4) (c := 1) ad len cap l 4 1 (w.alloc (.cells #[.int .i64 0, .int .i64 0, .int .i64 0, .int .i64 0, .bool false, .slice none 0 0] 36)) rfl rfl (hp.later HB.out) hlc hm h (by omega)
  clear hp h hm hlc
  generalize (bodyAt l 0) = bd at *
  obtain ⟨t1, t2, t3, t4, t5⟩ := tx_of bd
  have HX : Hid (∀ (W : World) (g n c : Nat), Part.ok W ⟨some ⟨g, 0, none⟩, n, c, bd⟩ → n = bd.length → n ≤ c → n ≤ 65536 → g < W.heap.size → Calls Tryz.prog 49 #[.slice (some ⟨g, 1, none⟩) (n - 1) (c - 1)] W fun x w' => ∃ o' : Nat, x = .returned (.tuple #[.agg #[.int .i64 0, .int .i64 (v : Int), .int .i64 (p : Int), .int .i64 (b : Int), .bool sl, .slice (some ⟨g, o', none⟩) (n - 1 - 19) (c - 1 - 19)], .bool false]) ∧ Hid (Part.ok w' ⟨some ⟨g, o', none⟩, n - 1 - 19, c - 1 - 19, bd.drop 20⟩) ∧ Below W.heap.size W w') := hid (fun W g n c h1 h2 h3 h5 h4 => by
    have q2 := part_rest 1 h1 (by omega) 1 (fun _ => rfl)
    have r := readText_ok g 1 (n - 1) (c - 1) (bd.drop 1) W sl false q2 (by omega) (by omega) (by omega) (by rw [t4]; exact hsl) (by rw [t4]; exact hx2) h4
    rw [t1, t2, t3, t5, ← hv, ← hpp, ← hb] at r
    exact r)
  have HN : Hid (∀ (W : World) (g n c : Nat), Part.ok W ⟨some ⟨g, 0, none⟩, n, c, bd⟩ → n = bd.length → n ≤ c → n ≤ 65536 → Calls Tryz.prog 46 #[.slice (some ⟨g, 0, none⟩) n c, .int .i64 0, .int .i64 1] W fun x w' => x = .returned (.int .i64 (e : Int)) ∧ Below W.heap.size W w') := hid (fun W g n c h1 h2 h3 h5 => by
    have r := numberAt_any (z := 0) (s := 1) (some ⟨g, 0, none⟩) n c bd 0 1 W rfl rfl h1 h3 (by omega) (by omega) (by omega) (by omega)
    rw [show valN ((bd.drop 0).take 1) = e from he.symm] at r
    exact r)
  clear t1 t2 t3 t4 t5 he hv hpp hb hsl hx2
  go_enter Tryz.func17, Tryz.ntmps17
  go_wp2_with (first
    | (go_at_call 45; refine Q.mono ?_; rintro x V ⟨g, n, c, rfl, hn, hn4, hn6, hnc, hcm, hg, k1, hb1⟩; have X0 : Hid (Blk V w.heap.size #[.int .i64 0, .int .i64 0, .int .i64 0, .int .i64 0, .bool false, .slice none 0 0] 36) := hid (blk_below (blk_new _ w _) hb1 (by simp)); have P0 : Hid (Part.ok V ⟨some ⟨g, 0, none⟩, n, c, bd⟩) := k1; have B0 : Hid (Below w.heap.size w V) := hid (HB.out.trans (hb1.mono HB.out.size)); have G0 : Hid (g < V.heap.size ∧ w.heap.size < g) := hid ⟨by (obtain ⟨b', off, e', hb', -⟩ := k1.cells (by omega); cases e'; exact hb'), Nat.lt_of_lt_of_le (by simp) hg⟩; have HNL : Hid (n = bd.length) := hn; have i1 : (1 : Int) ≤ (n : Int) := (by omega); have i2 : (n : Int) ≤ (c : Int) := (by omega); have i3 : (1 : Int) ≤ (c : Int) := (by omega); have hc20 : 20 ≤ c := (by omega); have i4 : (c == 1) = false := (by simp; omega); have i5 : ((c : Int) == 1) = false := (by simp; omega); clear hb1 k1 Q hcm hg hn)
    | (go_at_call 49; (with_reducible_and_instances (refine (HX.out V g n c P0.out HNL.out hnc hn6 G0.out.1).mono ?_)); rintro x V2 ⟨o', rfl, P2, b2⟩; have X2 : Hid (Blk V2 w.heap.size #[.int .i64 0, .int .i64 0, .int .i64 0, .int .i64 0, .bool false, .slice none 0 0] 36) := hid (X0.out.later b2); have B2 : Hid (Below w.heap.size w V2) := hid (B0.out.trans (b2.mono B0.out.size)); have Q2 : Hid (Part.ok V2 ⟨some ⟨g, 0, none⟩, n, c, bd⟩) := hid (P0.out.later b2); clear b2 X0 P0 B0)
    | (go_at_call 46; (with_reducible_and_instances (refine (HN.out _ g n c (Q2.out.later ((Below.refl _ _).alloc (Nat.le_refl _) _)) HNL.out hnc hn6).mono ?_)); rintro x V3 ⟨rfl, b3⟩; have N3 : Hid (Blk V3 V2.heap.size #[.int .i64 0, .int .i64 (v : Int), .int .i64 (p : Int), .int .i64 (b : Int), .bool sl, .slice (some ⟨g, o', none⟩) (n - 1 - 19) (c - 1 - 19)] 36) := hid ((blk_new _ V2 _).later b3); have c0 := N3.out.cell 0; have f0 := N3.out.free 0; simp only [List.getElem?_toArray, List.getElem?_cons_zero] at c0; have N4 : Hid (Blk (V3.setCell ⟨V2.heap.size, 0, none⟩ (.int .i64 (e : Int))) V2.heap.size #[.int .i64 (e : Int), .int .i64 (v : Int), .int .i64 (p : Int), .int .i64 (b : Int), .bool sl, .slice (some ⟨g, o', none⟩) (n - 1 - 19) (c - 1 - 19)] 36) := hid (N3.out.set 0 _); have BV : Hid (Below V2.heap.size V2 (V3.setCell ⟨V2.heap.size, 0, none⟩ (.int .i64 (e : Int)))) := hid ((((Below.refl _ _).alloc (Nat.le_refl _) _).trans (b3.mono (by simp))).setCell (p := ⟨V2.heap.size, 0, none⟩) (Nat.le_refl _) _); have X4 : Hid (Blk (V3.setCell ⟨V2.heap.size, 0, none⟩ (.int .i64 (e : Int))) w.heap.size #[.int .i64 0, .int .i64 0, .int .i64 0, .int .i64 0, .bool false, .slice none 0 0] 36) := hid (X2.out.later BV.out); obtain ⟨⟨x0, x1, x2, x3, x4, x5⟩, y0, y1, y2, y3, y4, y5⟩ := blk6 X4.out; clear b3))
  refine bodyPost_ret (ret_ans Tryz.results17 _ _ w.heap.size 0 0 0 0 false none 0 0 rfl (blk_set6 X4.out _ _ _ _ _ _)) rfl ⟨rfl, ?_⟩
  exact set6_below (B2.out.trans (BV.out.mono B2.out.size)) (Nat.le_refl _) _ _ _ _ _ _
set_option maxRecDepth 100000 in
set_option maxHeartbeats 8000000 in
theorem getAnswer_nom (ad : Option Addr) (len cap : Nat) (l : List Nat) (w : World) (e v p b : Nat) (sl : Bool) (hp : Part.ok w ⟨ad, len, cap, l⟩) (hlc : len ≤ cap) (hm : len ≤ 1000000000000000) (h : unpackN l 4 1 = true) (h20 : 20 ≤ (bodyAt l 0).length) (he : e = askK (bodyAt l 0)) (hv : v = askG (bodyAt l 0)) (hpp : p = askW (bodyAt l 0)) (hb : b = askB (bodyAt l 0)) (hsl : (((ansS (bodyAt l 0) : Nat) : Int) == 1) = sl) (hx2 : decide (((ansS (bodyAt l 0) : Nat) : Int) ≤ 1) = true) (hmay : ansMay e v p b ((bodyAt l 0).length - 20) = false) :
    Calls Tryz.prog 17 #[.slice ad len cap] w fun x w' => x = .returned (.tuple #[ansV 0 0 0 0 false none 0 0, .int .i64 22]) ∧ Below w.heap.size w w' := by
  have HB : Hid (Below w.heap.size w (w.alloc (.cells #[.int .i64 0, .int .i64 0, .int .i64 0, .int .i64 0, .bool false, .slice none 0 0] 36))) := hid ((Below.refl _ w).alloc (Nat.le_refl _) _)
  have Q := unpack_at (z := 4) (c := 1) ad len cap l 4 1 (w.alloc (.cells #[.int .i64 0, .int .i64 0, .int .i64 0, .int .i64 0, .bool false, .slice none 0 0] 36)) rfl rfl (hp.later HB.out) hlc hm h (by omega)
  clear hp h hm hlc
  generalize (bodyAt l 0) = bd at *
  obtain ⟨t1, t2, t3, t4, t5⟩ := tx_of bd
  have HX : Hid (∀ (W : World) (g n c : Nat), Part.ok W ⟨some ⟨g, 0, none⟩, n, c, bd⟩ → n = bd.length → n ≤ c → n ≤ 65536 → g < W.heap.size → Calls Tryz.prog 49 #[.slice (some ⟨g, 1, none⟩) (n - 1) (c - 1)] W fun x w' => ∃ o' : Nat, x = .returned (.tuple #[.agg #[.int .i64 0, .int .i64 (v : Int), .int .i64 (p : Int), .int .i64 (b : Int), .bool sl, .slice (some ⟨g, o', none⟩) (n - 1 - 19) (c - 1 - 19)], .bool true]) ∧ Hid (Part.ok w' ⟨some ⟨g, o', none⟩, n - 1 - 19, c - 1 - 19, bd.drop 20⟩) ∧ Below W.heap.size W w') := hid (fun W g n c h1 h2 h3 h5 h4 => by
    have q2 := part_rest 1 h1 (by omega) 1 (fun _ => rfl)
    have r := readText_ok g 1 (n - 1) (c - 1) (bd.drop 1) W sl true q2 (by omega) (by omega) (by omega) (by rw [t4]; exact hsl) (by rw [t4]; exact hx2) h4
    rw [t1, t2, t3, t5, ← hv, ← hpp, ← hb] at r
    exact r)
  have HN : Hid (∀ (W : World) (g n c : Nat), Part.ok W ⟨some ⟨g, 0, none⟩, n, c, bd⟩ → n = bd.length → n ≤ c → n ≤ 65536 → Calls Tryz.prog 46 #[.slice (some ⟨g, 0, none⟩) n c, .int .i64 0, .int .i64 1] W fun x w' => x = .returned (.int .i64 (e : Int)) ∧ Below W.heap.size W w') := hid (fun W g n c h1 h2 h3 h5 => by
    have r := numberAt_any (z := 0) (s := 1) (some ⟨g, 0, none⟩) n c bd 0 1 W rfl rfl h1 h3 (by omega) (by omega) (by omega) (by omega)
    rw [show valN ((bd.drop 0).take 1) = e from he.symm] at r
    exact r)
  have HM : Hid (∀ (W : World) (ad : Option Addr) (n c : Nat), n = bd.length - 20 → Calls Tryz.prog 41 #[.agg #[.int .i64 (e : Int), .int .i64 (v : Int), .int .i64 (p : Int), .int .i64 (b : Int), .bool sl, .slice ad n c]] W fun x w' => x = .returned (.bool false) ∧ Below W.heap.size W w') := hid (fun W ad n c hn => by
    have r := nmay_any (e : Int) (v : Int) (p : Int) (b : Int) sl ad n c W
    rw [hn, hmay] at r
    rw [hn]
    exact r)
  clear t1 t2 t3 t4 t5 he hv hpp hb hsl hx2 hmay
  go_enter Tryz.func17, Tryz.ntmps17
  go_wp2_with (first
    | (go_at_call 45; refine Q.mono ?_; rintro x V ⟨g, n, c, rfl, hn, hn4, hn6, hnc, hcm, hg, k1, hb1⟩; have X0 : Hid (Blk V w.heap.size #[.int .i64 0, .int .i64 0, .int .i64 0, .int .i64 0, .bool false, .slice none 0 0] 36) := hid (blk_below (blk_new _ w _) hb1 (by simp)); have P0 : Hid (Part.ok V ⟨some ⟨g, 0, none⟩, n, c, bd⟩) := k1; have B0 : Hid (Below w.heap.size w V) := hid (HB.out.trans (hb1.mono HB.out.size)); have G0 : Hid (g < V.heap.size ∧ w.heap.size < g) := hid ⟨by (obtain ⟨b', off, e', hb', -⟩ := k1.cells (by omega); cases e'; exact hb'), Nat.lt_of_lt_of_le (by simp) hg⟩; have HNL : Hid (n = bd.length) := hn; have i1 : (1 : Int) ≤ (n : Int) := (by omega); have i2 : (n : Int) ≤ (c : Int) := (by omega); have i3 : (1 : Int) ≤ (c : Int) := (by omega); have hc20 : 20 ≤ c := (by omega); have i4 : (c == 1) = false := (by simp; omega); have i5 : ((c : Int) == 1) = false := (by simp; omega); clear hb1 k1 Q hcm hg hn)
    | (go_at_call 49; (with_reducible_and_instances (refine (HX.out V g n c P0.out HNL.out hnc hn6 G0.out.1).mono ?_)); rintro x V2 ⟨o', rfl, P2, b2⟩; have X2 : Hid (Blk V2 w.heap.size #[.int .i64 0, .int .i64 0, .int .i64 0, .int .i64 0, .bool false, .slice none 0 0] 36) := hid (X0.out.later b2); have B2 : Hid (Below w.heap.size w V2) := hid (B0.out.trans (b2.mono B0.out.size)); have Q2 : Hid (Part.ok V2 ⟨some ⟨g, 0, none⟩, n, c, bd⟩) := hid (P0.out.later b2); clear b2 X0 P0 B0)
    | (go_at_call 46; (with_reducible_and_instances (refine (HN.out _ g n c (Q2.out.later ((Below.refl _ _).alloc (Nat.le_refl _) _)) HNL.out hnc hn6).mono ?_)); rintro x V3 ⟨rfl, b3⟩; have N3 : Hid (Blk V3 V2.heap.size #[.int .i64 0, .int .i64 (v : Int), .int .i64 (p : Int), .int .i64 (b : Int), .bool sl, .slice (some ⟨g, o', none⟩) (n - 1 - 19) (c - 1 - 19)] 36) := hid ((blk_new _ V2 _).later b3); have c0 := N3.out.cell 0; have f0 := N3.out.free 0; simp only [List.getElem?_toArray, List.getElem?_cons_zero] at c0; have N4 : Hid (Blk (V3.setCell ⟨V2.heap.size, 0, none⟩ (.int .i64 (e : Int))) V2.heap.size #[.int .i64 (e : Int), .int .i64 (v : Int), .int .i64 (p : Int), .int .i64 (b : Int), .bool sl, .slice (some ⟨g, o', none⟩) (n - 1 - 19) (c - 1 - 19)] 36) := hid (N3.out.set 0 _); have BV : Hid (Below V2.heap.size V2 (V3.setCell ⟨V2.heap.size, 0, none⟩ (.int .i64 (e : Int)))) := hid ((((Below.refl _ _).alloc (Nat.le_refl _) _).trans (b3.mono (by simp))).setCell (p := ⟨V2.heap.size, 0, none⟩) (Nat.le_refl _) _); obtain ⟨⟨d0, d1, d2, d3, d4, d5⟩, -⟩ := blk6 N4.out; have HM3 := HM.out (V3.setCell ⟨V2.heap.size, 0, none⟩ (.int .i64 (e : Int))) (some ⟨g, o', none⟩) (n - 1 - 19) (c - 1 - 19) (by have := HNL.out; omega); clear b3)
    | (go_at_call 41; (with_reducible_and_instances (refine HM3.mono ?_)); rintro x V4 ⟨rfl, b4⟩; have B4 : Hid (Below V2.heap.size V2 V4) := hid (BV.out.trans (b4.mono BV.out.size)); have X4 : Hid (Blk V4 w.heap.size #[.int .i64 0, .int .i64 0, .int .i64 0, .int .i64 0, .bool false, .slice none 0 0] 36) := hid (X2.out.later B4.out); obtain ⟨⟨x0, x1, x2, x3, x4, x5⟩, y0, y1, y2, y3, y4, y5⟩ := blk6 X4.out; clear b4 HM3))
  refine bodyPost_ret (ret_ans Tryz.results17 _ _ w.heap.size 0 0 0 0 false none 0 0 rfl (blk_set6 X4.out _ _ _ _ _ _)) rfl ⟨rfl, ?_⟩
  exact set6_below (B2.out.trans (B4.out.mono B2.out.size)) (Nat.le_refl _) _ _ _ _ _ _
set_option maxRecDepth 100000 in
set_option maxHeartbeats 8000000 in
theorem getAnswer_yes (ad : Option Addr) (len cap : Nat) (l : List Nat) (w : World) (e v p b : Nat) (sl : Bool) (hp : Part.ok w ⟨ad, len, cap, l⟩) (hlc : len ≤ cap) (hm : len ≤ 1000000000000000) (h : unpackN l 4 1 = true) (h20 : 20 ≤ (bodyAt l 0).length) (he : e = askK (bodyAt l 0)) (hv : v = askG (bodyAt l 0)) (hpp : p = askW (bodyAt l 0)) (hb : b = askB (bodyAt l 0)) (hsl : (((ansS (bodyAt l 0) : Nat) : Int) == 1) = sl) (hx2 : decide (((ansS (bodyAt l 0) : Nat) : Int) ≤ 1) = true) (hmay : ansMay e v p b ((bodyAt l 0).length - 20) = true) :
    Calls Tryz.prog 17 #[.slice ad len cap] w fun x w' => ∃ r : Part, x = .returned (.tuple #[.agg #[.int .i64 (e : Int), .int .i64 (v : Int), .int .i64 (p : Int), .int .i64 (b : Int), .bool sl, .slice r.ad r.len r.cap], .int .i64 0]) ∧ Hid (r.l = (bodyAt l 0).drop 20 ∧ r.ok w') ∧ Below w.heap.size w w' := by
  have HB : Hid (Below w.heap.size w (w.alloc (.cells #[.int .i64 0, .int .i64 0, .int .i64 0, .int .i64 0, .bool false, .slice none 0 0] 36))) := hid ((Below.refl _ w).alloc (Nat.le_refl _) _)
  have Q := unpack_at (z := 4) (c := 1) ad len cap l 4 1 (w.alloc (.cells #[.int .i64 0, .int .i64 0, .int .i64 0, .int .i64 0, .bool false, .slice none 0 0] 36)) rfl rfl (hp.later HB.out) hlc hm h (by omega)
  clear hp h hm hlc
  generalize (bodyAt l 0) = bd at *
  obtain ⟨t1, t2, t3, t4, t5⟩ := tx_of bd
  have HX : Hid (∀ (W : World) (g n c : Nat), Part.ok W ⟨some ⟨g, 0, none⟩, n, c, bd⟩ → n = bd.length → n ≤ c → n ≤ 65536 → g < W.heap.size → Calls Tryz.prog 49 #[.slice (some ⟨g, 1, none⟩) (n - 1) (c - 1)] W fun x w' => ∃ o' : Nat, x = .returned (.tuple #[.agg #[.int .i64 0, .int .i64 (v : Int), .int .i64 (p : Int), .int .i64 (b : Int), .bool sl, .slice (some ⟨g, o', none⟩) (n - 1 - 19) (c - 1 - 19)], .bool true]) ∧ Hid (Part.ok w' ⟨some ⟨g, o', none⟩, n - 1 - 19, c - 1 - 19, bd.drop 20⟩) ∧ Below W.heap.size W w') := hid (fun W g n c h1 h2 h3 h5 h4 => by
    have q2 := part_rest 1 h1 (by omega) 1 (fun _ => rfl)
    have r := readText_ok g 1 (n - 1) (c - 1) (bd.drop 1) W sl true q2 (by omega) (by omega) (by omega) (by rw [t4]; exact hsl) (by rw [t4]; exact hx2) h4
    rw [t1, t2, t3, t5, ← hv, ← hpp, ← hb] at r
    exact r)
  have HN : Hid (∀ (W : World) (g n c : Nat), Part.ok W ⟨some ⟨g, 0, none⟩, n, c, bd⟩ → n = bd.length → n ≤ c → n ≤ 65536 → Calls Tryz.prog 46 #[.slice (some ⟨g, 0, none⟩) n c, .int .i64 0, .int .i64 1] W fun x w' => x = .returned (.int .i64 (e : Int)) ∧ Below W.heap.size W w') := hid (fun W g n c h1 h2 h3 h5 => by
    have r := numberAt_any (z := 0) (s := 1) (some ⟨g, 0, none⟩) n c bd 0 1 W rfl rfl h1 h3 (by omega) (by omega) (by omega) (by omega)
    rw [show valN ((bd.drop 0).take 1) = e from he.symm] at r
    exact r)
  have HM : Hid (∀ (W : World) (ad : Option Addr) (n c : Nat), n = bd.length - 20 → Calls Tryz.prog 41 #[.agg #[.int .i64 (e : Int), .int .i64 (v : Int), .int .i64 (p : Int), .int .i64 (b : Int), .bool sl, .slice ad n c]] W fun x w' => x = .returned (.bool true) ∧ Below W.heap.size W w') := hid (fun W ad n c hn => by
    have r := nmay_any (e : Int) (v : Int) (p : Int) (b : Int) sl ad n c W
    rw [hn, hmay] at r
    rw [hn]
    exact r)
  clear t1 t2 t3 t4 t5 he hv hpp hb hsl hx2 hmay
  go_enter Tryz.func17, Tryz.ntmps17
  go_wp2_with (first
    | (go_at_call 45; refine Q.mono ?_; rintro x V ⟨g, n, c, rfl, hn, hn4, hn6, hnc, hcm, hg, k1, hb1⟩; have X0 : Hid (Blk V w.heap.size #[.int .i64 0, .int .i64 0, .int .i64 0, .int .i64 0, .bool false, .slice none 0 0] 36) := hid (blk_below (blk_new _ w _) hb1 (by simp)); have P0 : Hid (Part.ok V ⟨some ⟨g, 0, none⟩, n, c, bd⟩) := k1; have B0 : Hid (Below w.heap.size w V) := hid (HB.out.trans (hb1.mono HB.out.size)); have G0 : Hid (g < V.heap.size ∧ w.heap.size < g) := hid ⟨by (obtain ⟨b', off, e', hb', -⟩ := k1.cells (by omega); cases e'; exact hb'), Nat.lt_of_lt_of_le (by simp) hg⟩; have HNL : Hid (n = bd.length) := hn; have i1 : (1 : Int) ≤ (n : Int) := (by omega); have i2 : (n : Int) ≤ (c : Int) := (by omega); have i3 : (1 : Int) ≤ (c : Int) := (by omega); have hc20 : 20 ≤ c := (by omega); have i4 : (c == 1) = false := (by simp; omega); have i5 : ((c : Int) == 1) = false := (by simp; omega); clear hb1 k1 Q hcm hg hn)
    | (go_at_call 49; (with_reducible_and_instances (refine (HX.out V g n c P0.out HNL.out hnc hn6 G0.out.1).mono ?_)); rintro x V2 ⟨o', rfl, P2, b2⟩; have X2 : Hid (Blk V2 w.heap.size #[.int .i64 0, .int .i64 0, .int .i64 0, .int .i64 0, .bool false, .slice none 0 0] 36) := hid (X0.out.later b2); have B2 : Hid (Below w.heap.size w V2) := hid (B0.out.trans (b2.mono B0.out.size)); have Q2 : Hid (Part.ok V2 ⟨some ⟨g, 0, none⟩, n, c, bd⟩) := hid (P0.out.later b2); clear b2 X0 P0 B0)
    | (go_at_call 46; (with_reducible_and_instances (refine (HN.out _ g n c (Q2.out.later ((Below.refl _ _).alloc (Nat.le_refl _) _)) HNL.out hnc hn6).mono ?_)); rintro x V3 ⟨rfl, b3⟩; have N3 : Hid (Blk V3 V2.heap.size #[.int .i64 0, .int .i64 (v : Int), .int .i64 (p : Int), .int .i64 (b : Int), .bool sl, .slice (some ⟨g, o', none⟩) (n - 1 - 19) (c - 1 - 19)] 36) := hid ((blk_new _ V2 _).later b3); have c0 := N3.out.cell 0; have f0 := N3.out.free 0; simp only [List.getElem?_toArray, List.getElem?_cons_zero] at c0; have N4 : Hid (Blk (V3.setCell ⟨V2.heap.size, 0, none⟩ (.int .i64 (e : Int))) V2.heap.size #[.int .i64 (e : Int), .int .i64 (v : Int), .int .i64 (p : Int), .int .i64 (b : Int), .bool sl, .slice (some ⟨g, o', none⟩) (n - 1 - 19) (c - 1 - 19)] 36) := hid (N3.out.set 0 _); have BV : Hid (Below V2.heap.size V2 (V3.setCell ⟨V2.heap.size, 0, none⟩ (.int .i64 (e : Int)))) := hid ((((Below.refl _ _).alloc (Nat.le_refl _) _).trans (b3.mono (by simp))).setCell (p := ⟨V2.heap.size, 0, none⟩) (Nat.le_refl _) _); obtain ⟨⟨d0, d1, d2, d3, d4, d5⟩, -⟩ := blk6 N4.out; have HM3 := HM.out (V3.setCell ⟨V2.heap.size, 0, none⟩ (.int .i64 (e : Int))) (some ⟨g, o', none⟩) (n - 1 - 19) (c - 1 - 19) (by have := HNL.out; omega); clear b3)
    | (go_at_call 41; (with_reducible_and_instances (refine HM3.mono ?_)); rintro x V4 ⟨rfl, b4⟩; have B4 : Hid (Below V2.heap.size V2 V4) := hid (BV.out.trans (b4.mono BV.out.size)); have N5 : Hid (Blk V4 V2.heap.size #[.int .i64 (e : Int), .int .i64 (v : Int), .int .i64 (p : Int), .int .i64 (b : Int), .bool sl, .slice (some ⟨g, o', none⟩) (n - 1 - 19) (c - 1 - 19)] 36) := hid (N4.out.later b4); obtain ⟨⟨r0, r1, r2, r3, r4, r5⟩, -⟩ := blk6 N5.out; have X4 : Hid (Blk V4 w.heap.size #[.int .i64 0, .int .i64 0, .int .i64 0, .int .i64 0, .bool false, .slice none 0 0] 36) := hid (X2.out.later B4.out); obtain ⟨⟨x0, x1, x2, x3, x4, x5⟩, y0, y1, y2, y3, y4, y5⟩ := blk6 X4.out; clear b4 HM3))
  refine bodyPost_ret (ret_ans Tryz.results17 _ _ w.heap.size _ _ _ _ _ _ _ _ rfl (blk_set6 X4.out _ _ _ _ _ _)) rfl ⟨⟨some ⟨g, o', none⟩, n - 1 - 19, c - 1 - 19, bd.drop 20⟩, rfl, hid ⟨rfl, part_set6 (P2.out.later B4.out) (fun b' off e' => by injection e' with e'; injection e' with e'; have := G0.out.2; omega)⟩, ?_⟩
  exact set6_below (B2.out.trans (B4.out.mono B2.out.size)) (Nat.le_refl _) _ _ _ _ _ _
set_option maxRecDepth 100000 in
set_option maxHeartbeats 8000000 in
theorem getAnswer_short (ad : Option Addr) (len cap : Nat) (l : List Nat) (w : World) (hp : Part.ok w ⟨ad, len, cap, l⟩) (hlc : len ≤ cap) (hm : len ≤ 1000000000000000) (h : unpackN l 4 1 = true) (h20 : (bodyAt l 0).length < 20) :
    Calls Tryz.prog 17 #[.slice ad len cap] w fun x w' => x = .returned (.tuple #[ansV 0 0 0 0 false none 0 0, .int .i64 22]) ∧ Below w.heap.size w w' := by
  have HB : Hid (Below w.heap.size w (w.alloc (.cells #[.int .i64 0, .int .i64 0, .int .i64 0, .int .i64 0, .bool false, .slice none 0 0] 36))) := hid ((Below.refl _ w).alloc (Nat.le_refl _) _)
  have Q := unpack_at (z := 4) (c := 1) ad len cap l 4 1 (w.alloc (.cells #[.int .i64 0, .int .i64 0, .int .i64 0, .int .i64 0, .bool false, .slice none 0 0] 36)) rfl rfl (hp.later HB.out) hlc hm h (by omega)
  clear hp h hm hlc
  generalize (bodyAt l 0) = bd at *
  obtain ⟨e, he⟩ : ∃ s, s = askK bd := ⟨_, rfl⟩
  have HN : Hid (∀ (W : World) (g n c : Nat), Part.ok W ⟨some ⟨g, 0, none⟩, n, c, bd⟩ → n = bd.length → n ≤ c → 1 ≤ n → Calls Tryz.prog 46 #[.slice (some ⟨g, 0, none⟩) n c, .int .i64 0, .int .i64 1] W fun x w' => x = .returned (.int .i64 (e : Int)) ∧ Below W.heap.size W w') := hid (fun W g n c h1 h2 h3 h5 => by
    have r := numberAt_any (z := 0) (s := 1) (some ⟨g, 0, none⟩) n c bd 0 1 W rfl rfl h1 h3 (by omega) (by omega) (by omega) (by omega)
    rw [show valN ((bd.drop 0).take 1) = e from he.symm] at r
    exact r)
  have HX : Hid (∀ (ad : Option Addr) (n c : Nat) (W : World), n < 19 → Calls Tryz.prog 49 #[.slice ad n c] W fun e w' => e = .returned (.tuple #[.agg #[.int .i64 0, .int .i64 0, .int .i64 0, .int .i64 0, .bool false, .slice none 0 0], .bool false]) ∧ Below W.heap.size W w') := hid (fun ad n c W hn => readText_no ad n c W hn)
  clear he
  go_enter Tryz.func17, Tryz.ntmps17
  go_upto_region 4 with (go_at_call 45; refine Q.mono ?_; rintro x V ⟨g, n, c, rfl, hn, hn4, hn6, hnc, hcm, hg, k1, hb1⟩; have X0 : Hid (Blk V w.heap.size #[.int .i64 0, .int .i64 0, .int .i64 0, .int .i64 0, .bool false, .slice none 0 0] 36) := hid (blk_below (blk_new _ w _) hb1 (by simp)); have P0 : Hid (Part.ok V ⟨some ⟨g, 0, none⟩, n, c, bd⟩) := k1; have B0 : Hid (Below w.heap.size w V) := hid (HB.out.trans (hb1.mono HB.out.size)); have G0 : Hid (g < V.heap.size ∧ w.heap.size < g) := hid ⟨by (obtain ⟨b', off, e', hb', -⟩ := k1.cells (by omega); cases e'; exact hb'), Nat.lt_of_lt_of_le (by simp) hg⟩; have HNL : Hid (n = bd.length) := hn; have i1 : (1 : Int) ≤ (n : Int) := (by omega); have i2 : (n : Int) ≤ (c : Int) := (by omega); have i3 : (1 : Int) ≤ (c : Int) := (by omega); have hn20 : n < 20 := (by omega); clear hb1 k1 Q hcm hg hn)
  by_cases hc1 : c = 1
  · have hn1 : n = 1 := by omega
    subst hc1 hn1
    go_wp2_with (first
      | (go_at_call 49; (with_reducible_and_instances (refine (HX.out _ _ _ V (by omega)).mono ?_)); rintro x V2 ⟨rfl, b2⟩; have X2 : Hid (Blk V2 w.heap.size #[.int .i64 0, .int .i64 0, .int .i64 0, .int .i64 0, .bool false, .slice none 0 0] 36) := hid (X0.out.later b2); have B2 : Hid (Below w.heap.size w V2) := hid (B0.out.trans (b2.mono B0.out.size)); have Q2 : Hid (Part.ok V2 ⟨some ⟨g, 0, none⟩, 1, 1, bd⟩) := hid (P0.out.later b2); clear b2 X0 P0 B0)
      | (go_at_call 46; (with_reducible_and_instances (refine (HN.out _ g 1 1 (Q2.out.later ((Below.refl _ _).alloc (Nat.le_refl _) _)) HNL.out hnc hn4).mono ?_)); rintro x V3 ⟨rfl, b3⟩; have N3 : Hid (Blk V3 V2.heap.size #[.int .i64 0, .int .i64 0, .int .i64 0, .int .i64 0, .bool false, .slice none 0 0] 36) := hid ((blk_new _ V2 _).later b3); have c0 := N3.out.cell 0; have f0 := N3.out.free 0; simp only [List.getElem?_toArray, List.getElem?_cons_zero] at c0; have BV : Hid (Below V2.heap.size V2 (V3.setCell ⟨V2.heap.size, 0, none⟩ (.int .i64 (e : Int)))) := hid ((((Below.refl _ _).alloc (Nat.le_refl _) _).trans (b3.mono (by simp))).setCell (p := ⟨V2.heap.size, 0, none⟩) (Nat.le_refl _) _); have X4 : Hid (Blk (V3.setCell ⟨V2.heap.size, 0, none⟩ (.int .i64 (e : Int))) w.heap.size #[.int .i64 0, .int .i64 0, .int .i64 0, .int .i64 0, .bool false, .slice none 0 0] 36) := hid (X2.out.later BV.out); obtain ⟨⟨x0, x1, x2, x3, x4, x5⟩, y0, y1, y2, y3, y4, y5⟩ := blk6 X4.out; clear b3))
    refine bodyPost_ret (ret_ans Tryz.results17 _ _ w.heap.size 0 0 0 0 false none 0 0 rfl (blk_set6 X4.out _ _ _ _ _ _)) rfl ⟨rfl, ?_⟩
    exact set6_below (B2.out.trans (BV.out.mono B2.out.size)) (Nat.le_refl _) _ _ _ _ _ _
  · have i4 : (c == 1) = false := by simpa using hc1
    have i5 : ((c : Int) == 1) = false := by simp; omega
    go_wp2_with (first
      | (go_at_call 49; (with_reducible_and_instances (refine (HX.out _ _ _ V (by omega)).mono ?_)); rintro x V2 ⟨rfl, b2⟩; have X2 : Hid (Blk V2 w.heap.size #[.int .i64 0, .int .i64 0, .int .i64 0, .int .i64 0, .bool false, .slice none 0 0] 36) := hid (X0.out.later b2); have B2 : Hid (Below w.heap.size w V2) := hid (B0.out.trans (b2.mono B0.out.size)); have Q2 : Hid (Part.ok V2 ⟨some ⟨g, 0, none⟩, n, c, bd⟩) := hid (P0.out.later b2); clear b2 X0 P0 B0)
      | (go_at_call 46; (with_reducible_and_instances (refine (HN.out _ g n c (Q2.out.later ((Below.refl _ _).alloc (Nat.le_refl _) _)) HNL.out hnc hn4).mono ?_)); rintro x V3 ⟨rfl, b3⟩; have N3 : Hid (Blk V3 V2.heap.size #[.int .i64 0, .int .i64 0, .int .i64 0, .int .i64 0, .bool false, .slice none 0 0] 36) := hid ((blk_new _ V2 _).later b3); have c0 := N3.out.cell 0; have f0 := N3.out.free 0; simp only [List.getElem?_toArray, List.getElem?_cons_zero] at c0; have BV : Hid (Below V2.heap.size V2 (V3.setCell ⟨V2.heap.size, 0, none⟩ (.int .i64 (e : Int)))) := hid ((((Below.refl _ _).alloc (Nat.le_refl _) _).trans (b3.mono (by simp))).setCell (p := ⟨V2.heap.size, 0, none⟩) (Nat.le_refl _) _); have X4 : Hid (Blk (V3.setCell ⟨V2.heap.size, 0, none⟩ (.int .i64 (e : Int))) w.heap.size #[.int .i64 0, .int .i64 0, .int .i64 0, .int .i64 0, .bool false, .slice none 0 0] 36) := hid (X2.out.later BV.out); obtain ⟨⟨x0, x1, x2, x3, x4, x5⟩, y0, y1, y2, y3, y4, y5⟩ := blk6 X4.out; clear b3))
    refine bodyPost_ret (ret_ans Tryz.results17 _ _ w.heap.size 0 0 0 0 false none 0 0 rfl (blk_set6 X4.out _ _ _ _ _ _)) rfl ⟨rfl, ?_⟩
    exact set6_below (B2.out.trans (BV.out.mono B2.out.size)) (Nat.le_refl _) _ _ _ _ _ _
end Go.Proofs.YtoihddlbdimmlaaGreat.Ac
namespace Go.Proofs.YtoihddlbdimmlaaGreat.Ac
open Go.RowKit Crcm

/-- P802. -/
def putAnsN (e v p b : Int) (s : Bool) (l : List Nat) : Int × List Nat := if ansMay e v p b l.length = true then (0, frameBs 4 (ansN e.toNat v.toNat p.toNat b.toNat s.toNat l)) else (1, [])
structure AnsR where
  z : Int
  e : Int
  v : Int
  p : Int
  b : Int
  s : Bool
  d : List Nat
def getAnsN (l : List Nat) : AnsR := if unpackN l 4 20 = true ∧ ansIn (bodyAt l 0) = true then ⟨0, (askK (bodyAt l 0) : Nat), (askG (bodyAt l 0) : Nat), (askW (bodyAt l 0) : Nat), (askB (bodyAt l 0) : Nat), ((ansS (bodyAt l 0) : Nat) : Int) == 1, (bodyAt l 0).drop 20⟩ else ⟨22, 0, 0, 0, 0, false, []⟩
theorem ansMay_nat {e v p b : Int} {n : Nat} (h : ansMay e v p b n = true) : ∃ a b' c d : Nat, e = a ∧ v = b' ∧ p = c ∧ b = d := by
  unfold ansMay at h
  simp only [Bool.and_eq_true, decide_eq_true_eq, isLogletN_iff] at h
  exact ⟨e.toNat, v.toNat, p.toNat, b.toNat, by omega, by omega, by omega, by omega⟩
theorem ansMay_lim {e v p b n : Nat} (h : ansMay e v p b n = true) : e ≤ 255 ∧ v < 281474976710656 ∧ p < 281474976710656 ∧ b < 281474976710656 ∧ n ≤ 4000 := by
  unfold ansMay at h
  simp only [Bool.and_eq_true, decide_eq_true_eq, isLogletN_iff] at h
  exact ⟨by omega, by omega, by omega, by omega, by omega⟩
theorem putAnswer_any (e v p b : Int) (s : Bool) (ad : Option Addr) (len cap : Nat) (l : List Nat) (w : World) (ha : Part.ok w ⟨ad, len, cap, l⟩) : Calls Tryz.prog 12 #[ansV e v p b s ad len cap] w (QPostA (putAnsN e v p b s l) w) := by
  have hl : l.length = len := ha.1
  unfold putAnsN
  cases hm : ansMay e v p b l.length with
  | true =>
    rw [if_pos rfl]
    rw [hl] at hm
    obtain ⟨a, b, c, d, rfl, rfl, rfl, rfl⟩ := ansMay_nat hm
    obtain ⟨he, hv, hp, hb, hlen⟩ := ansMay_lim hm
    refine (putAnswer_ok a b c d s ad len cap l w he hv hp hb hlen ha).mono ?_
    rintro x w' ⟨q, rfl, e1, k1, o1, b1⟩
    exact ⟨q, rfl, (show Hid _ from ⟨e1.out, k1.out⟩), b1⟩
  | false =>
    rw [if_neg (by simp)]
    rw [hl] at hm
    refine (putAnswer_no e v p b s ad len cap w hm).mono ?_
    rintro x w' ⟨rfl, b1⟩
    exact ⟨⟨none, 0, 0, []⟩, rfl, (show Hid _ from ⟨rfl, nil_ok _⟩), b1⟩
theorem refPutAnswer_any (e v p b : Int) (s : Bool) (ad : Option Addr) (len cap : Nat) (l : List Nat) (w : World) (ha : Part.ok w ⟨ad, len, cap, l⟩) : Calls Tryz.prog 13 #[ansV e v p b s ad len cap] w (QPostA (putAnsN e v p b s l) w) := by
  have hl : l.length = len := ha.1
  unfold putAnsN
  cases hm : ansMay e v p b l.length with
  | true =>
    rw [if_pos rfl]
    rw [hl] at hm
    obtain ⟨a, b, c, d, rfl, rfl, rfl, rfl⟩ := ansMay_nat hm
    obtain ⟨he, hv, hp, hb, hlen⟩ := ansMay_lim hm
    refine (refPutAnswer_ok a b c d s ad len cap l w hm he hlen ha).mono ?_
    rintro x w' ⟨q, rfl, e1, k1, b1⟩
    exact ⟨q, rfl, (show Hid _ from ⟨e1.out, k1.out⟩), b1⟩
  | false =>
    rw [if_neg (by simp)]
    rw [hl] at hm
    refine (refPutAnswer_no e v p b s ad len cap w hm).mono ?_
    rintro x w' ⟨rfl, b1⟩
    exact ⟨⟨none, 0, 0, []⟩, rfl, (show Hid _ from ⟨rfl, nil_ok _⟩), b1⟩
/-- What a Get answers. -/
def GPostR (r : AnsR) (w : World) (x : Ending) (w' : World) : Prop := ∃ q : Part, x = .returned (.tuple #[.agg #[.int .i64 r.e, .int .i64 r.v, .int .i64 r.p, .int .i64 r.b, .bool r.s, .slice q.ad q.len q.cap], .int .i64 r.z]) ∧ Hid (q.l = r.d ∧ q.ok w') ∧ Below w.heap.size w w'
theorem unpack20 {l : List Nat} (h : unpackN l 4 1 = true) : unpackN l 4 20 = decide (20 ≤ (bodyAt l 0).length) := by
  rw [unpackN_eq] at h ⊢
  simp at h
  rw [bodyAt_length h.1.1.1]
  simp [h.1.1.1, h.1.1.2, h.1.2]
theorem getAnswer_any (ad : Option Addr) (len cap : Nat) (l : List Nat) (w : World) (hp : Part.ok w ⟨ad, len, cap, l⟩) (hlc : len ≤ cap) (hm : len ≤ 1000000000000000) : Calls Tryz.prog 17 #[.slice ad len cap] w (GPostR (getAnsN l) w) := by
  unfold getAnsN
  cases hu : unpackN l 4 1 with
  | false =>
    rw [unpack_less hu, if_neg (by simp)]
    refine (getAnswer_no1 ad len cap l w hp hlc hm hu).mono ?_
    rintro x w' ⟨rfl, b1⟩
    exact ⟨⟨none, 0, 0, []⟩, rfl, (show Hid _ from ⟨rfl, nil_ok _⟩), b1⟩
  | true =>
    rw [unpack20 hu]
    by_cases h20 : 20 ≤ (bodyAt l 0).length
    rotate_left
    · rw [if_neg (by simp [h20])]
      refine (getAnswer_short ad len cap l w hp hlc hm hu (by omega)).mono ?_
      rintro x w' ⟨rfl, b1⟩
      exact ⟨⟨none, 0, 0, []⟩, rfl, (show Hid _ from ⟨rfl, nil_ok _⟩), b1⟩
    by_cases hs : ansS (bodyAt l 0) ≤ 1
    rotate_left
    · rw [if_neg (by simp [ansIn, hs])]
      refine (getAnswer_nox ad len cap l w _ _ _ _ _ hp hlc hm hu h20 rfl rfl rfl rfl rfl (by simp; omega)).mono ?_
      rintro x w' ⟨rfl, b1⟩
      exact ⟨⟨none, 0, 0, []⟩, rfl, (show Hid _ from ⟨rfl, nil_ok _⟩), b1⟩
    cases hy : ansMay (askK (bodyAt l 0)) (askG (bodyAt l 0)) (askW (bodyAt l 0)) (askB (bodyAt l 0)) ((bodyAt l 0).length - 20) with
    | false =>
      rw [if_neg (by simp [ansIn, hy])]
      refine (getAnswer_nom ad len cap l w _ _ _ _ _ hp hlc hm hu h20 rfl rfl rfl rfl rfl (by simp; omega) hy).mono ?_
      rintro x w' ⟨rfl, b1⟩
      exact ⟨⟨none, 0, 0, []⟩, rfl, (show Hid _ from ⟨rfl, nil_ok _⟩), b1⟩
    | true =>
      rw [if_pos (by simp [ansIn, hy, h20, hs])]
      exact getAnswer_yes ad len cap l w _ _ _ _ _ hp hlc hm hu h20 rfl rfl rfl rfl rfl (by simp; omega) hy
theorem refGetAnswer_any (ad : Option Addr) (len cap : Nat) (l : List Nat) (w : World) (hp : Part.ok w ⟨ad, len, cap, l⟩) (hlc : len ≤ cap) (hm : len ≤ 1000000000000000) : Calls Tryz.prog 18 #[.slice ad len cap] w (GPostR (getAnsN l) w) := by
  unfold getAnsN
  cases hu : unpackN l 4 20 with
  | false =>
    rw [if_neg (by simp)]
    refine (refGetAnswer_no1 ad len cap l w hp hlc hm hu).mono ?_
    rintro x w' ⟨rfl, b1⟩
    exact ⟨⟨none, 0, 0, []⟩, rfl, (show Hid _ from ⟨rfl, nil_ok _⟩), b1⟩
  | true =>
    refine (refGetAnswer_frame ad len cap l w hp hlc hm hu).mono ?_
    rintro x w' ⟨⟨h1, rfl⟩ | ⟨h1, q, rfl, h3, h4⟩, hb⟩
    · rw [h1, if_neg (by simp)]
      exact ⟨⟨none, 0, 0, []⟩, rfl, (show Hid _ from ⟨rfl, nil_ok _⟩), hb⟩
    · rw [h1, if_pos ⟨rfl, rfl⟩]
      exact ⟨q, rfl, (show Hid _ from ⟨h3, h4⟩), hb⟩
theorem getAnswer_at {rz re rv rp rb : Int} {rs : Bool} {rd l : List Nat} (hr : getAnsN l = ⟨rz, re, rv, rp, rb, rs, rd⟩) (hlen : l.length ≤ 1000000000000000) (W : World) (q : Part) (hq : q.l = l ∧ q.ok W) (hlc : q.len ≤ q.cap) :
    Calls Tryz.prog 17 #[.slice q.ad q.len q.cap] W fun x w' => ∃ s : Part, x = .returned (.tuple #[.agg #[.int .i64 re, .int .i64 rv, .int .i64 rp, .int .i64 rb, .bool rs, .slice s.ad s.len s.cap], .int .i64 rz]) ∧ Hid (s.l = rd ∧ s.ok w') ∧ Below W.heap.size W w' := by
  have h := getAnswer_any q.ad q.len q.cap l W (part_is hq) hlc (by rw [← (part_is hq).1]; exact hlen)
  rw [hr] at h
  exact h
theorem refGetAnswer_at {rz re rv rp rb : Int} {rs : Bool} {rd l : List Nat} (hr : getAnsN l = ⟨rz, re, rv, rp, rb, rs, rd⟩) (hlen : l.length ≤ 1000000000000000) (W : World) (ad : Option Addr) (len cap : Nat) (hq : Part.ok W ⟨ad, len, cap, l⟩) (hlc : len ≤ cap) :
    Calls Tryz.prog 18 #[.slice ad len cap] W fun x w' => ∃ s : Part, x = .returned (.tuple #[.agg #[.int .i64 re, .int .i64 rv, .int .i64 rp, .int .i64 rb, .bool rs, .slice s.ad s.len s.cap], .int .i64 rz]) ∧ Hid (s.l = rd ∧ s.ok w') ∧ Below W.heap.size W w' := by
  have h := refGetAnswer_any ad len cap l W hq hlc (by have e : l.length = len := hq.1; omega)
  rw [hr] at h
  exact h
theorem putAnswer_at {z e v p b : Int} {s : Bool} {l d : List Nat} (hr : putAnsN e v p b s l = (z, d)) (W : World) (q : Part) (hq : q.l = l ∧ q.ok W) :
    Calls Tryz.prog 12 #[.agg #[.int .i64 e, .int .i64 v, .int .i64 p, .int .i64 b, .bool s, .slice q.ad q.len q.cap]] W fun x w' => ∃ s : Part, x = .returned (.tuple #[.slice s.ad s.len s.cap, .int .i64 z]) ∧ Hid (s.l = d ∧ s.ok w') ∧ Below W.heap.size W w' := by
  have h := putAnswer_any e v p b s q.ad q.len q.cap l W (part_is hq)
  rw [hr] at h
  exact h
theorem refPutAnswer_at {z e v p b : Int} {s : Bool} {l d : List Nat} (hr : putAnsN e v p b s l = (z, d)) (W : World) (ad : Option Addr) (len cap : Nat) (hq : Part.ok W ⟨ad, len, cap, l⟩) :
    Calls Tryz.prog 13 #[.agg #[.int .i64 e, .int .i64 v, .int .i64 p, .int .i64 b, .bool s, .slice ad len cap]] W fun x w' => ∃ s : Part, x = .returned (.tuple #[.slice s.ad s.len s.cap, .int .i64 z]) ∧ Hid (s.l = d ∧ s.ok w') ∧ Below W.heap.size W w' := by
  have h := refPutAnswer_any e v p b s ad len cap l W hq
  rw [hr] at h
  exact h
theorem sameAnswer_at (e v p b : Int) (s : Bool) (q q' : Part) (l : List Nat) (w : World) (h1 : q.l = l ∧ q.ok w) (h2 : q'.l = l ∧ q'.ok w) :
    Calls Tryz.prog 21 #[.agg #[.int .i64 e, .int .i64 v, .int .i64 p, .int .i64 b, .bool s, .slice q.ad q.len q.cap], .agg #[.int .i64 e, .int .i64 v, .int .i64 p, .int .i64 b, .bool s, .slice q'.ad q'.len q'.cap]] w fun x w' => x = .returned (.bool true) ∧ Below w.heap.size w w' :=
  sameAnswer_yes e v p b s q.ad q'.ad q.len q.cap q'.len q'.cap l w (part_is h1) (part_is h2)
end Go.Proofs.YtoihddlbdimmlaaGreat.Ac
