/- A net as plain data: the luck that waits, the messages that are late, and what each call answers and leaves. -/
import Derived.Test.YtgbjlkaaniaaaaaDoorOffRow
import Derived.Test.YtgbjlkaaniaaaaaDoorStr
namespace Go.Proofs.YtgbjlkaaniaaaaaDoor
open Go.RowKit

/-- A late message: to whom, its bytes. -/
structure Msg where
  to : Int
  b : List Nat
structure NSt where
  luck : List Int
  late : List Msg
def fits (n : Int) : Prop := -9223372036854775808 ≤ n ∧ n ≤ 9223372036854775807
structure NSt.ok (s : NSt) : Prop where
  luck : ∀ x ∈ s.luck, fits x
  late : ∀ m ∈ s.late, fits m.to ∧ ∀ x ∈ m.b, x < 256
def intV (n : Int) : Value := .int .i64 n
def msgV (m : Msg) : List Value := [.int .i64 m.to, .string (bstr m.b)]
def lateV (l : List Msg) : List Value := l.flatMap msgV
theorem lateV_len (l : List Msg) : (lateV l).length = l.length * 2 := by
  induction l with
  | nil => rfl
  | cons a l ih => unfold lateV at *; rw [List.flatMap_cons, List.length_append, ih]; simp [msgV]; omega
theorem lateV_app (a b : List Msg) : lateV (a ++ b) = lateV a ++ lateV b := by unfold lateV; rw [List.flatMap_append]
theorem lateV_one (l : List Msg) : ∀ u ∈ lateV l, u.oneCell' = true := by
  intro u hu
  obtain ⟨m, _, h⟩ := List.mem_flatMap.1 hu
  simp [msgV] at h
  rcases h with rfl | rfl <;> rfl
theorem luckV_one (l : List Int) : ∀ u ∈ l.map intV, u.oneCell' = true := by
  intro u hu
  obtain ⟨m, _, rfl⟩ := List.mem_map.1 hu
  rfl
theorem lateV_get (l : List Msg) (k : Nat) (h : k < l.length) : (lateV l)[k * 2]? = some (.int .i64 l[k].to) ∧ (lateV l)[k * 2 + 1]? = some (.string (bstr l[k].b)) := by
  induction l generalizing k with
  | nil => simp at h
  | cons a l ih =>
    have e : lateV (a :: l) = .int .i64 a.to :: .string (bstr a.b) :: lateV l := rfl
    cases k with
    | zero => rw [e]; exact ⟨rfl, rfl⟩
    | succ k =>
      have := ih k (by simpa using h)
      rw [e, show (k + 1) * 2 = k * 2 + 1 + 1 by omega]
      simpa using this
theorem lateV_take (l : List Msg) (k : Nat) : lateV (l.take k) = (lateV l).take (k * 2) := by
  induction l generalizing k with
  | nil => simp [lateV]
  | cons a l ih =>
    cases k with
    | zero => simp [lateV]
    | succ k =>
      have e : lateV (a :: l) = .int .i64 a.to :: .string (bstr a.b) :: lateV l := rfl
      have e2 : lateV (a :: l.take k) = .int .i64 a.to :: .string (bstr a.b) :: lateV (l.take k) := rfl
      rw [List.take_succ_cons, e, e2, ih, show (k + 1) * 2 = k * 2 + 1 + 1 by omega]
      rfl
theorem lateV_drop (l : List Msg) (k : Nat) : lateV (l.drop k) = (lateV l).drop (k * 2) := by
  induction l generalizing k with
  | nil => simp [lateV]
  | cons a l ih =>
    cases k with
    | zero => simp
    | succ k =>
      have e : lateV (a :: l) = .int .i64 a.to :: .string (bstr a.b) :: lateV l := rfl
      rw [List.drop_succ_cons, e, ih, show (k + 1) * 2 = k * 2 + 1 + 1 by omega]
      rfl
def new0 : NSt := ⟨[], []⟩
theorem new0_ok : new0.ok := ⟨fun x hx => (by cases hx), fun x hx => (by cases hx)⟩
def luckD (s : NSt) (l : List Int) : NSt := ⟨s.luck ++ l, s.late⟩
/-- '(x%5 + 5) % 5'. -/
def restN (x : Int) : Nat := (x % 5).toNat
theorem restN_lt (x : Int) : restN x < 5 := by unfold restN; omega
theorem restN_go (x : Int) : (x.tmod 5 + 5).tmod 5 = (restN x : Int) := by
  have h1 := Int.tmod_lt_of_pos x (show (0 : Int) < 5 by omega)
  have h2 := Int.lt_tmod_of_pos x (show (0 : Int) < 5 by omega)
  rw [Int.tmod_eq_emod_of_nonneg (by omega), Int.add_emod_right]
  unfold restN
  have h3 := Int.tmod_def x 5
  have h4 := Int.mul_tdiv_add_tmod x 5
  omega
/-- What becomes of the next message: 0 to 4. -/
def fateD (s : NSt) : Nat := match s.luck with
  | [] => 0
  | x :: _ => restN x
theorem fateD_lt (s : NSt) : fateD s < 5 := by
  unfold fateD
  split
  · omega
  · exact restN_lt _
def timesN (c : Nat) : Int := if c = 4 then 2 else if c = 0 ∨ c = 2 then 1 else 0
def replyN (c : Nat) : Bool := c == 0 || c == 4
def sendD (s : NSt) (to : Int) (b : List Nat) : NSt := ⟨s.luck.tail, if fateD s = 3 then s.late ++ [⟨to, b⟩] else s.late⟩
def hasD (s : NSt) (k : Int) : Bool := decide (0 ≤ k) && decide (k < s.late.length)
def msgD (s : NSt) (k : Int) : Msg := if hasD s k then s.late.getD k.toNat ⟨0, []⟩ else ⟨0, []⟩
def takeD (s : NSt) (k : Int) : NSt := if hasD s k then ⟨s.luck, s.late.eraseIdx k.toNat⟩ else s
def doubleD (s : NSt) (k : Int) : NSt := if hasD s k then ⟨s.luck, s.late ++ [msgD s k]⟩ else s
theorem luckD_ok {s : NSt} (h : s.ok) (l : List Int) (hl : ∀ x ∈ l, fits x) : (luckD s l).ok := ⟨fun x hx => by
  rcases List.mem_append.1 hx with hx | hx
  · exact h.luck x hx
  · exact hl x hx, h.late⟩
theorem sendD_ok {s : NSt} (h : s.ok) (to : Int) (b : List Nat) (ht : fits to) (hb : ∀ x ∈ b, x < 256) : (sendD s to b).ok := ⟨fun x hx => h.luck x (List.mem_of_mem_tail hx), fun m hm => by
  unfold sendD at hm
  simp only at hm
  split at hm
  · rcases List.mem_append.1 hm with hm | hm
    · exact h.late m hm
    · simp at hm; subst hm; exact ⟨ht, hb⟩
  · exact h.late m hm⟩
theorem msgD_ok {s : NSt} (h : s.ok) (k : Int) : fits (msgD s k).to ∧ ∀ x ∈ (msgD s k).b, x < 256 := by
  unfold msgD
  split
  · rename_i hk
    simp [hasD] at hk
    rw [List.getD_eq_getElem?_getD, List.getElem?_eq_getElem (by omega)]
    exact h.late _ (List.getElem_mem _)
  · exact ⟨by unfold fits; simp, fun x hx => by cases hx⟩
theorem takeD_ok {s : NSt} (h : s.ok) (k : Int) : (takeD s k).ok := by
  unfold takeD
  split
  · exact ⟨h.luck, fun m hm => h.late m (List.mem_of_mem_eraseIdx hm)⟩
  · exact h
theorem doubleD_ok {s : NSt} (h : s.ok) (k : Int) : (doubleD s k).ok := by
  unfold doubleD
  split
  · refine ⟨h.luck, fun m hm => ?_⟩
    rcases List.mem_append.1 hm with hm | hm
    · exact h.late m hm
    · simp at hm; subst hm; exact msgD_ok h k
  · exact h
end Go.Proofs.YtgbjlkaaniaaaaaDoor
