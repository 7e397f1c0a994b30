/- What Retain and Compact leave, over plain data: the latest offsets by keys, what may be known of a ledger behind it. -/
import Derived.Test.YtfgamkcnnijloaaGreatPZTk
import Derived.Test.YtfgamkcnnijloaaGreatPZAb
import Derived.Test.YtfgamkcnnijloaaGreatPZMem
namespace Go.Proofs.YtfgamkcnnijloaaGreat
open Go.RowKit

theorem bytes_beqK (a b : ByteArray) : (a == b) = true ↔ a = b := by
  obtain ⟨⟨x⟩⟩ := a
  obtain ⟨⟨y⟩⟩ := b
  show ((⟨x⟩ : Array UInt8) == ⟨y⟩) = true ↔ _
  simp
/-- A key as a map's. -/
def kLit (k : ByteArray) : Lit := .string k.data.toList
theorem kLit_inj {a b : ByteArray} (h : kLit a = kLit b) : a = b := by
  obtain ⟨⟨x⟩⟩ := a
  obtain ⟨⟨y⟩⟩ := b
  unfold kLit at h
  injection h with h
  simp at h
  rw [h]
/-- The map that staying fills, behind some rows. -/
noncomputable def latF (c : Rw → Bool) (l : List Rw) (f0 : Lit → Option Value) : Lit → Option Value := l.foldl (fun f r => if c r = true then updF f (kLit r.rc.key) (some (.int .i64 r.off)) else f) f0
theorem latF_snoc (c : Rw → Bool) (l : List Rw) (r : Rw) (f0 : Lit → Option Value) : latF c (l ++ [r]) f0 = if c r = true then updF (latF c l f0) (kLit r.rc.key) (some (.int .i64 r.off)) else latF c l f0 := by
  unfold latF
  rw [List.foldl_append]
  rfl
theorem latF_look (c : Rw → Bool) (k : ByteArray) : ∀ (l : List Rw) (f0 : Lit → Option Value), latF c l f0 (kLit k) = match (l.filter (fun r => c r && r.rc.key == k)).getLast? with
    | some r => some (.int .i64 r.off)
    | none => f0 (kLit k)
  | [], f0 => rfl
  | r :: l, f0 => by
    show latF c l (if c r = true then updF f0 (kLit r.rc.key) (some (.int .i64 r.off)) else f0) (kLit k) = _
    rw [latF_look c k l, List.filter_cons]
    cases hc : c r with
    | false =>
      rw [if_neg (by simp), if_neg (by simp)]
    | true =>
      rw [if_pos rfl]
      by_cases hk : r.rc.key = k
      · rw [if_pos (by rw [Bool.true_and]; exact (bytes_beqK _ _).2 hk), List.getLast?_cons, hk]
        cases (l.filter (fun r => c r && r.rc.key == k)).getLast? with
        | none => exact updF_same _ _ _
        | some x => rfl
      · rw [if_neg (by rw [Bool.true_and]; intro h; exact hk ((bytes_beqK _ _).1 h))]
        cases (l.filter (fun r => c r && r.rc.key == k)).getLast? with
        | none => exact updF_other _ (fun e => hk (kLit_inj e.symm)) _
        | some x => rfl
theorem latest_look (g : Lg) (n : Int) (k : ByteArray) : latF (fun r => decide (r.off < n) && !g.dead r) g.rows (fun _ => none) (kLit k) = (g.latest n k).map (fun z => .int .i64 z) := by
  rw [latF_look]
  unfold Lg.latest
  cases (g.rows.filter (fun r => decide (r.off < n) && !g.dead r && r.rc.key == k)).getLast? with
  | none => rfl
  | some x => rfl
/-- Which rows a Retain (2) or a Compact leaves. -/
def stayB (g : Lg) (kd nn : Int) (r : Rw) : Bool := if kd = 2 then decide (nn ≤ r.off) else g.stays nn r
theorem left_stay (g : Lg) (x : Et) : g.left x = g.rows.filter (stayB g x.kind x.n) := by
  unfold Lg.left stayB
  by_cases h : x.kind = 2
  · rw [if_pos h]
    congr 1
    funext r
    rw [if_pos h]
  · rw [if_neg h]
    congr 1
    funext r
    rw [if_neg h]
theorem choose_all {α : Type} (p : α → Bool) : ∀ (l : List α) (m : Nat), l.length ≤ m → chooseN p m l = l.filter p
  | [], m, _ => by cases m <;> rfl
  | r :: l, 0, h => by simp at h
  | r :: l, m + 1, h => by
    show (if p r = true then r :: chooseN p m l else chooseN p (m + 1) l) = _
    have hl : l.length ≤ m := by simpa using h
    rw [choose_all p l m hl, choose_all p l (m + 1) (by omega), List.filter_cons]
/-- The keys of a ledger's rows are short. -/
def LKeys (g : Lg) : Prop := ∀ r ∈ g.rows, r.rc.key.size ≤ 65536
theorem stable_first {g : Lg} (h : LgOk g) : g.start ≤ g.stable ∧ g.stable ≤ g.fin ∧ ∀ t ∈ g.opn, g.stable ≤ t.first := by
  unfold Lg.stable
  have h1 := h.start
  have h2 := h.opn
  have h3 := h.oprise
  cases ho : g.opn with
  | nil => exact ⟨h1.2, Int.le_refl _, fun t ht => by cases ht⟩
  | cons a l =>
    rw [ho] at h2 h3
    have ha := h2 a (by simp)
    refine ⟨ha.1, by show a.first ≤ g.fin; omega, fun t ht => ?_⟩
    rcases List.mem_cons.1 ht with rfl | ht
    · exact Int.le_refl _
    · have := (List.pairwise_cons.1 h3).1 t ht
      show a.first ≤ t.first
      omega
theorem retain_ok {g : Lg} (h : LgOk g) {n : Int} (h0 : g.start ≤ n) (h1 : n ≤ g.stable) (q : Gn → Bool) : LgOk { g with start := n, rows := g.rows.filter (fun r => decide (n ≤ r.off)), gone := g.gone.filter q } := by
  obtain ⟨k1, k2, k3⟩ := stable_first h
  refine ⟨⟨by have := h.start.1; show 0 ≤ n; omega, by show n ≤ g.fin; omega⟩, h.fin, h.rise.filter _, fun r hr => ?_, fun t ht => ⟨?_, (h.opn t ht).2⟩, h.oprise, fun x hx => h.gone x ((List.mem_filter.1 hx).1)⟩
  · have h2 := List.mem_filter.1 hr
    exact ⟨by simpa using h2.2, (h.rows r h2.1).2⟩
  · have := k3 t ht
    show n ≤ t.first
    omega
theorem compact_ok {g : Lg} (h : LgOk g) (p : Rw → Bool) : LgOk { g with rows := g.rows.filter p } :=
  ⟨h.start, h.fin, h.rise.filter _, fun r hr => h.rows r ((List.mem_filter.1 hr).1), h.opn, h.oprise, h.gone⟩
end Go.Proofs.YtfgamkcnnijloaaGreat
