/- Slices of bytes in memory: where they lie, what owns them, what is appended to them, what they are as texts. No function of the program is named here. -/
import Derived.Test.YtpjemifoilbjeaaChecked
import Derived.WalkKit
import Derived.WalkSpells
import Derived.WalkLawsBesides
import Derived.Laws.BitsAllLaws
import Derived.Laws.AppendOwnNone
import Derived.Laws.BytesArg
import Derived.Deep.AppendLies
import Derived.BigQuiet
import Derived.Deep.QuietTactic
import Derived.Deep.RegionHeld3
namespace Go.Proofs.Ytpjemifoilbjeaa
open Go.RowKit

theorem ret_int {k : IntKind} {a b : Int} (h : a = b) : Ending.returned (.int k a) = .returned (.int k b) := by rw [h]
theorem val_int {k : IntKind} {a b : Int} (h : a = b) : Value.int k a = .int k b := by rw [h]
/-- In w the bytes l lie from the address ad on. -/
def Row (w : World) (ad : Option Addr) (l : List Nat) : Prop :=
  (∀ x ∈ l, x < 256) ∧ (l = [] ∨ ∃ b off, ad = some ⟨b, off, none⟩ ∧ b < w.heap.size ∧ ∀ i, i < l.length → w.cell? ⟨b, off + i, none⟩ = some (.int .u8 (l.getD i 0 : Nat)))
theorem Row.later {w w' : World} {ad : Option Addr} {l : List Nat} (h : Row w ad l) (hb : Below w.heap.size w w') : Row w' ad l := by
  refine ⟨h.1, ?_⟩
  rcases h.2 with h | ⟨b, off, e, hs, hc⟩
  · exact Or.inl h
  · exact Or.inr ⟨b, off, e, Nat.lt_of_lt_of_le hs hb.size, fun i hi => by rw [hb.cell (p := ⟨b, off + i, none⟩) hs]; exact hc i hi⟩
theorem getD_lt {l : List Nat} (h : ∀ x ∈ l, x < 256) (k : Nat) : l.getD k 0 < 256 := by
  rw [List.getD_eq_getElem?_getD]
  by_cases hk : k < l.length
  · rw [List.getElem?_eq_getElem hk]; exact h _ (List.getElem_mem hk)
  · rw [List.getElem?_eq_none (by omega)]; simp
theorem take_snoc (l : List Nat) (k : Nat) (h : k < l.length) : l.take (k + 1) = l.take k ++ [l.getD k 0] := by
  rw [List.take_succ_eq_append_getElem h, List.getD_eq_getElem?_getD, List.getElem?_eq_getElem h]; rfl
theorem take_mem {l : List Nat} (h : ∀ x ∈ l, x < 256) (k : Nat) : ∀ x ∈ l.take k, x < 256 := fun x hx => h x (List.mem_of_mem_take hx)
/-- A byte as a value. -/
def bv (x : Nat) : Value := .int .u8 (x : Int)
/-- A slice of bytes as a part: where it lies, its length, its room, its bytes. -/
structure Part where
  ad : Option Addr
  len : Nat
  cap : Nat
  l : List Nat
/-- In w the part's value is a slice of just its bytes. -/
def Part.ok (w : World) (p : Part) : Prop := p.l.length = p.len ∧ (p.ad = none → p.len = 0 ∧ p.cap = 0) ∧ Row w p.ad p.l
theorem Part.ok.later {w w' : World} {p : Part} (h : p.ok w) (hb : Below w.heap.size w w') : p.ok w' := ⟨h.1, h.2.1, h.2.2.later hb⟩
theorem addr_add (b off j : Nat) : (⟨b, off, none⟩ : Addr).add j = ⟨b, off + j, none⟩ := by
  by_cases h : j = 0
  · subst h; simp [Addr.add]
  · simp [Addr.add, h]
theorem row_cells {w : World} {ad : Option Addr} {l : List Nat} (h : Row w ad l) : ∀ a, ad = some a → ∀ j u, (l.map bv)[j]? = some u → w.cell? (a.add j) = some u := by
  intro a ha j u hu
  rw [List.getElem?_map] at hu
  rcases h.2 with h | ⟨b, off, e, _, hc⟩
  · subst h; simp at hu
  · rw [ha] at e
    cases e
    cases hj : l[j]? with
    | none => rw [hj] at hu; simp at hu
    | some x =>
      rw [hj] at hu
      have hl : j < l.length := (List.getElem?_eq_some_iff.1 hj).1
      have := hc j hl
      rw [List.getD_eq_getElem?_getD, hj] at this
      simp at hu
      subst hu
      rw [addr_add]
      exact this
theorem bv_one (l : List Nat) : ∀ u ∈ l.map bv, u.oneCell' = true := by
  intro u hu
  rw [List.mem_map] at hu
  obtain ⟨x, _, rfl⟩ := hu
  rfl
/-- The text of some bytes. -/
def bstr (l : List Nat) : ByteArray := strOfNums (l.map Int.ofNat)
theorem Part.ok.cells {w : World} {ad : Option Addr} {n cap : Nat} {l : List Nat} (h : Part.ok w ⟨ad, n, cap, l⟩) (hn : 0 < n) :
    ∃ b off, ad = some ⟨b, off, none⟩ ∧ b < w.heap.size ∧ ∀ i, i < n → w.cell? ⟨b, off + i, none⟩ = some (.int .u8 (l.getD i 0 : Nat)) := by
  have hl : l.length = n := h.1
  obtain ⟨b, off, e, hb, hc⟩ := h.2.2.2.resolve_left (fun e => by have e2 : l = [] := e; rw [e2] at hl; simp at hl; omega)
  exact ⟨b, off, e, hb, fun i hi => hc i (by show i < l.length; omega)⟩
theorem own_room {w : World} {base e size g n cap : Nat} {xs : List Value} (h : w.ownsRow base e size (.slice (some ⟨g, 0, none⟩) n cap) n xs) : n ≤ cap ∧ cap ≤ maxLen := by
  rcases h.2 with ⟨e, _⟩ | ⟨g', c', cur, e, _, _, h1, h2, _⟩
  · cases e
  · cases e; exact ⟨h1, h2⟩
theorem drop_take_snoc (l : List Nat) (p k : Nat) (h : p + k < l.length) : (l.drop p).take (k + 1) = (l.drop p).take k ++ [l.getD (p + k) 0] := by
  rw [take_snoc (l.drop p) k (by simp; omega)]
  simp [List.getD_eq_getElem?_getD]
theorem drop_take_lt {l : List Nat} (h : ∀ x ∈ l, x < 256) (p k : Nat) : ∀ x ∈ (l.drop p).take k, x < 256 := fun x hx => h x (List.mem_of_mem_drop (List.mem_of_mem_take hx))
theorem drop_take_length (l : List Nat) (p k : Nat) (h : p + k ≤ l.length) : ((l.drop p).take k).length = k := by simp; omega
/-- What 'x[p : p+n]' is. -/
def cutP (P : Part) (p n : Nat) : Part := if P.cap = p then ⟨P.ad, n, 0, (P.l.drop p).take n⟩ else ⟨P.ad.map (fun x => x.add p), n, P.cap - p, (P.l.drop p).take n⟩
theorem cutP_l (P : Part) (p n : Nat) : (cutP P p n).l = (P.l.drop p).take n := by unfold cutP; split <;> rfl
theorem cutP_len (P : Part) (p n : Nat) : (cutP P p n).len = n := by unfold cutP; split <;> rfl
theorem cutP_cap (P : Part) (p n : Nat) : (cutP P p n).cap = P.cap - p := by
  unfold cutP; split
  · show 0 = _; omega
  · rfl
theorem cutP_ok {w : World} {P : Part} (h : P.ok w) (p n : Nat) (hn : p + n ≤ P.len) (hc : P.len ≤ P.cap) : (cutP P p n).ok w := by
  obtain ⟨ad, len, cap, l⟩ := P
  obtain ⟨h1, h2, h3, h4⟩ := h
  simp only at h1 h2 h3 h4 hn hc
  unfold cutP
  simp only
  by_cases e : cap = p
  · rw [if_pos e]
    have hn0 : n = 0 := by omega
    subst hn0
    exact ⟨by simp, fun _ => ⟨rfl, rfl⟩, by simp, Or.inl (by simp)⟩
  · rw [if_neg e]
    refine ⟨by simp; omega, ?_, drop_take_lt h3 p n, ?_⟩
    · intro hz
      cases ad with
      | none => have := h2 rfl; simp only; omega
      | some a => simp at hz
    · by_cases hn0 : n = 0
      · subst hn0; exact Or.inl (by simp)
      · right
        rcases h4 with h4 | ⟨b, off, rfl, hb, hcell⟩
        · subst h4; simp at h1; omega
        · refine ⟨b, off + p, by simp [addr_add], hb, ?_⟩
          intro i hi
          simp only [List.length_take, List.length_drop] at hi
          have e2 := hcell (p + i) (by omega)
          rw [Nat.add_assoc, e2]
          congr 3
          rw [List.getD_eq_getElem?_getD, List.getD_eq_getElem?_getD, List.getElem?_take, if_pos (by omega), List.getElem?_drop]
theorem below_drewN' {B : Nat} {w0 w : World} (h : Below B w0 w) (m : Nat) : Below B w0 (w.drewN m) := by
  induction m with
  | zero => exact h
  | succ m ih => exact ih.drew
theorem results_tmp4 {fn : Func} {t u v x : Tmp} (h : fn.results = #[.tmp t, .tmp u, .tmp v, .tmp x]) (tmps : Array Value) (P : Program) (w : World) :
    (results fn tmps).run P w = .ok (.tuple #[tmps.getD t undef, tmps.getD u undef, tmps.getD v undef, tmps.getD x undef]) w := by
  simp [results, h]
theorem own_kept {w w' : World} {base e size n : Nat} {v : Value} {xs : List Value} (h : w.ownsRow base e size v n xs) (hb : Below w.heap.size w w') : w'.ownsRow base e size v n xs := by
  refine ⟨h.1, ?_⟩
  rcases h.2 with h2 | ⟨g, cap, cur, hv, hgb, hg, r⟩
  · exact Or.inl h2
  · refine Or.inr ⟨g, cap, cur, hv, hgb, ?_, r⟩
    rw [hb.block g ?_]
    · exact hg
    · rcases Nat.lt_or_ge g w.heap.size with hlt | hge
      · exact hlt
      · rw [Array.getElem?_eq_none hge] at hg; cases hg
end Go.Proofs.Ytpjemifoilbjeaa
