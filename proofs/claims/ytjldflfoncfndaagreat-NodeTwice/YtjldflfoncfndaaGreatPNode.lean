/- spell, numberAt, unpack of package node. may of a reply and of a request of package node. PutReply of package node, of a reply that may not be; unpack. Boxes of four cells: a request or a reply that a call hands back. The body of a frame, and the reply that is made of it. GetReply and GetRequest of package node, of bytes that are no such frame. -/
import Derived.Test.YtjldflfoncfndaaGreatPStr
import Derived.Test.YtjldflfoncfndaaGreatPWire
import Derived.Laws.ResultCell
namespace Go.Proofs.YtjldflfoncfndaaGreat
open Go.RowKit Crcm

set_option maxRecDepth 100000 in
theorem nspell_at {z s : Int} (n size : Nat) (w : World) (hz : z = n) (hs : s = size) (h1 : 1 ≤ size) (h6 : size ≤ 6) (hn : n < 2 ^ (8 * size)) :
    Calls Tryz.prog 37 #[.int .i64 z, .int .i64 s] w fun e w' => ∃ p : Part, e = .returned (.slice p.ad p.len p.cap) ∧ Hid (p.l = spellN n size) ∧ Hid (p.ok w') ∧ Below w.heap.size w w' := by
  subst hz hs
  have q := put_any (n : Int) (size : Int) w
  rw [putN_ok n size h1 h6 hn] at q
  go_enter Tryz.func37, Tryz.ntmps37
  go_wp2_with (go_at_call 71; refine q.mono ?_; rintro e w' ⟨v, rfl, hown, hb⟩)
  go_ret
  obtain ⟨p, rfl, h1, h2⟩ := Part.of_own hown
  exact ⟨p, rfl, h1, h2, hb⟩
set_option maxRecDepth 100000 in
theorem numberAt_any {z s : Int} (ad : Option Addr) (len cap : Nat) (l : List Nat) (p n : Nat) (w : World) (hz : z = p) (hs : s = n) (hp : Part.ok w ⟨ad, len, cap, l⟩) (hlc : len ≤ cap) (hm : len ≤ 1000000000000000) (h1 : 1 ≤ n) (h6 : n ≤ 6) (h : p + n ≤ len) :
    Calls Tryz.prog 44 #[.slice ad len cap, .int .i64 z, .int .i64 s] w fun e w' => e = .returned (.int .i64 ((valN ((l.drop p).take n) : Nat) : Int)) ∧ Below w.heap.size w w' := by
  subst hz hs
  have q := get_any ad len cap l (p : Int) (n : Int) w hp hlc hm (by omega)
  rw [getN_ok l p n ⟨h1, h6⟩ (by rw [show l.length = len from hp.1]; exact h)] at q
  clear hp
  go_enter Tryz.func44, Tryz.ntmps44
  go_wp2_with (go_at_call 74; refine q.mono ?_; rintro e w' ⟨rfl, hb⟩)
  go_ret
  exact ⟨rfl, hb⟩
/-- The body of the frame that the whole of l is, if it is of that kind and long enough. -/
def unpackN (l : List Nat) (kind least : Nat) : Bool := decide (unframeE l 0 = 0 ∧ kindAt l 0 = kind ∧ 9 + sizeAt l 0 = l.length ∧ least ≤ sizeAt l 0)
end Go.Proofs.YtjldflfoncfndaaGreat
namespace Go.Proofs.YtjldflfoncfndaaGreat
open Go.RowKit Crcm

/-- A reply as it is handed on. -/
def repV (e t : Int) (s : Bool) (ad : Option Addr) (len cap : Nat) : Value := .agg #[.int .i64 e, .int .i64 t, .bool s, .slice ad len cap]
/-- P502: a reply that may be. -/
def repMay (e t : Int) (len : Nat) : Bool := decide (0 ≤ e) && decide (e ≤ 255) && decide (0 ≤ t) && decide (t ≤ 4096) && decide (len ≤ 65504)
set_option maxRecDepth 100000 in
set_option maxHeartbeats 1000000 in
theorem rmay_any (e t : Int) (s : Bool) (ad : Option Addr) (len cap : Nat) (w : World) :
    Calls Tryz.prog 41 #[repV e t s ad len cap] w fun x w' => x = .returned (.bool (repMay e t len)) ∧ Below w.heap.size w w' := by
  have hb : Below w.heap.size w (w.alloc (.cells #[.int .i64 e, .int .i64 t, .bool s, .slice ad len cap] 31)) := (Below.refl _ w).alloc (Nat.le_refl _) _
  unfold repV
  by_cases h1 : 0 ≤ e
  · by_cases h2 : e ≤ 255
    · by_cases h3 : 0 ≤ t
      · by_cases h4 : t ≤ 4096
        · go_enter Tryz.func41, Tryz.ntmps41
          go_wp2
          go_ret
          exact ⟨by simp [repMay, h1, h2, h3, h4]; omega, hb⟩
        · go_enter Tryz.func41, Tryz.ntmps41
          go_wp2
          go_ret
          exact ⟨by simp [repMay]; omega, hb⟩
      · go_enter Tryz.func41, Tryz.ntmps41
        go_wp2
        go_ret
        exact ⟨by simp [repMay]; omega, hb⟩
    · go_enter Tryz.func41, Tryz.ntmps41
      go_wp2
      go_ret
      exact ⟨by simp [repMay]; omega, hb⟩
  · go_enter Tryz.func41, Tryz.ntmps41
    go_wp2
    go_ret
    exact ⟨by simp [repMay]; omega, hb⟩

/-- A request as it is handed on. -/
def reqV (k l p : Int) (ad : Option Addr) (len cap : Nat) : Value := .agg #[.int .i64 k, .int .i64 l, .int .i64 p, .slice ad len cap]
def maxPosN (k : Int) : Int := if k = 3 ∨ k = 5 then 0 else 4096
def maxDataN (k : Int) : Int := if k = 1 ∨ k = 2 then 65504 else 0
/-- P502: a request that may be. -/
def reqMay (k l p : Int) (len : Nat) : Bool := decide (1 ≤ k) && decide (k < 7) && decide (0 ≤ l) && decide (l < 281474976710656) && decide (0 ≤ p) && decide (p ≤ maxPosN k) && decide ((len : Int) ≤ maxDataN k)
set_option maxRecDepth 100000 in
set_option maxHeartbeats 1000000 in
theorem maxPos_any (k l p : Int) (ad : Option Addr) (len cap : Nat) (w : World) :
    Calls Tryz.prog 65 #[reqV k l p ad len cap] w fun x w' => x = .returned (.int .i64 (maxPosN k)) ∧ Below w.heap.size w w' := by
  have hb : Below w.heap.size w (w.alloc (.cells #[.int .i64 k, .int .i64 l, .int .i64 p, .slice ad len cap] 27)) := (Below.refl _ w).alloc (Nat.le_refl _) _
  unfold reqV maxPosN
  by_cases h1 : k = 3
  · subst h1
    go_enter Tryz.func65, Tryz.ntmps65
    go_wp2
    go_ret
    exact ⟨by simp, hb⟩
  · have e1 : (k == 3) = false := by simpa using h1
    by_cases h2 : k = 5
    · subst h2
      go_enter Tryz.func65, Tryz.ntmps65
      go_wp2
      go_ret
      exact ⟨by simp, hb⟩
    · have e2 : (k == 5) = false := by simpa using h2
      go_enter Tryz.func65, Tryz.ntmps65
      go_wp2
      go_ret
      exact ⟨by simp, hb⟩
set_option maxRecDepth 100000 in
set_option maxHeartbeats 1000000 in
theorem maxData_any (k l p : Int) (ad : Option Addr) (len cap : Nat) (w : World) :
    Calls Tryz.prog 66 #[reqV k l p ad len cap] w fun x w' => x = .returned (.int .i64 (maxDataN k)) ∧ Below w.heap.size w w' := by
  have hb : Below w.heap.size w (w.alloc (.cells #[.int .i64 k, .int .i64 l, .int .i64 p, .slice ad len cap] 27)) := (Below.refl _ w).alloc (Nat.le_refl _) _
  unfold reqV maxDataN
  by_cases h1 : k = 1
  · subst h1
    go_enter Tryz.func66, Tryz.ntmps66
    go_wp2
    go_ret
    exact ⟨by simp, hb⟩
  · have e1 : (k == 1) = false := by simpa using h1
    by_cases h2 : k = 2
    · subst h2
      go_enter Tryz.func66, Tryz.ntmps66
      go_wp2
      go_ret
      exact ⟨by simp, hb⟩
    · have e2 : (k == 2) = false := by simpa using h2
      go_enter Tryz.func66, Tryz.ntmps66
      go_wp2
      go_ret
      exact ⟨by simp, hb⟩
end Go.Proofs.YtjldflfoncfndaaGreat
namespace Go.Proofs.YtjldflfoncfndaaGreat
open Go.RowKit Crcm

set_option maxRecDepth 100000 in
set_option maxHeartbeats 4000000 in
theorem putReply_no (e t : Int) (s : Bool) (ad : Option Addr) (len cap : Nat) (w : World) (hmay : repMay e t len = false) :
    Calls Tryz.prog 12 #[repV e t s ad len cap] w fun x w' => x = .returned (.tuple #[.slice none 0 0, .int .i64 1]) ∧ Below w.heap.size w w' := by
  have HM := rmay_any e t s ad len cap (w.alloc (.cells #[.int .i64 e, .int .i64 t, .bool s, .slice ad len cap] 31))
  rw [hmay] at HM
  have HB : Hid (Below w.heap.size w (w.alloc (.cells #[.int .i64 e, .int .i64 t, .bool s, .slice ad len cap] 31))) := (show Hid _ from (Below.refl _ w).alloc (Nat.le_refl _) _)
  clear hmay
  unfold repV at HM ⊢
  go_enter Tryz.func12, Tryz.ntmps12
  go_wp2_with (go_at_call 41; refine HM.mono ?_; rintro x W1 ⟨rfl, hb1⟩)
  go_ret2
  exact ⟨rfl, HB.out.trans (hb1.mono HB.out.size)⟩
/-- What unpack answers besides the body. -/
theorem unpackN_eq (l : List Nat) (kind least : Nat) : unpackN l kind least = (decide (unframeE l 0 = 0) && decide (kindAt l 0 = kind) && decide (9 + sizeAt l 0 = l.length) && decide (least ≤ sizeAt l 0)) := by
  unfold unpackN
  by_cases h1 : unframeE l 0 = 0 <;> by_cases h2 : kindAt l 0 = kind <;> by_cases h3 : 9 + sizeAt l 0 = l.length <;> simp [h1, h2, h3]
theorem bodyAt_length {l : List Nat} (h : unframeE l 0 = 0) : (bodyAt l 0).length = sizeAt l 0 := by
  have := unframeE_zero h
  unfold bodyAt
  rw [List.length_take, List.length_drop]
  omega
set_option maxRecDepth 100000 in
set_option maxHeartbeats 4000000 in
theorem unpack_ok {z c : Int} (ad : Option Addr) (len cap : Nat) (l : List Nat) (kind least : Nat) (w : World) (hz : z = kind) (hc : c = least) (hp : Part.ok w ⟨ad, len, cap, l⟩) (hlc : len ≤ cap) (hm : len ≤ 1000000000000000) (h : unpackN l kind least = true) :
    Calls Tryz.prog 43 #[.slice ad len cap, .int .i64 z, .int .i64 c] w fun e w' => ∃ p : Part, e = .returned (.tuple #[.slice p.ad p.len p.cap, .bool true]) ∧ Hid (p.l = bodyAt l 0) ∧ Hid (p.ok w') ∧ Hid (Own w' w.heap.size (.slice p.ad p.len p.cap) (bodyAt l 0)) ∧ Below w.heap.size w w' := by
  subst hz hc
  unfold unpackN at h
  obtain ⟨h1, h2, h3, h4⟩ := of_decide_eq_true h
  have q := unframe_any ad len cap l 0 w hp hlc hm (by omega)
  have e0 := unframeN_ok l 0 h1
  rw [show ((0 : Nat) : Int) = 0 from rfl] at e0
  rw [e0] at q
  have hl : l.length = len := hp.1
  have e1 : ((kindAt l 0 : Nat) : Int) = kind := by omega
  have e2 : ((0 + 9 + sizeAt l 0 : Nat) : Int) = (len : Int) := by omega
  have hbl := bodyAt_length h1
  simp only at q
  rw [e1, e2] at q
  clear hp e0 e1 e2 h h1 h2
  go_enter Tryz.func43, Tryz.ntmps43
  go_wp2_with (go_at_call 73; refine q.mono ?_; rintro e w' ⟨v, rfl, hown, hb⟩; obtain ⟨p, rfl, h5, h6⟩ := Part.of_own hown; have hpl : p.len = sizeAt l 0 := (by rw [← h6.1, h5, hbl]); have hpk : least ≤ p.len := (by omega); have O6 : Hid (Own w' w.heap.size (.slice p.ad p.len p.cap) (bodyAt l 0)) := hown; have K6 : Hid (p.ok w') := h6; have E6 : Hid (p.l = bodyAt l 0) := h5; clear hown h5 h6 hpl)
  go_ret2
  exact ⟨p, rfl, E6, K6, O6, hb⟩
set_option maxRecDepth 100000 in
set_option maxHeartbeats 4000000 in
theorem unpack_no {z c : Int} (ad : Option Addr) (len cap : Nat) (l : List Nat) (kind least : Nat) (w : World) (hz : z = kind) (hc : c = least) (hp : Part.ok w ⟨ad, len, cap, l⟩) (hlc : len ≤ cap) (hm : len ≤ 1000000000000000) (h : unpackN l kind least = false) :
    Calls Tryz.prog 43 #[.slice ad len cap, .int .i64 z, .int .i64 c] w fun e w' => ∃ p : Part, e = .returned (.tuple #[.slice p.ad p.len p.cap, .bool false]) ∧ Below w.heap.size w w' := by
  subst hz hc
  have q := unframe_any ad len cap l 0 w hp hlc hm (by omega)
  have hl : l.length = len := hp.1
  clear hp
  unfold unpackN at h
  by_cases h1 : unframeE l 0 = 0
  · have e0 := unframeN_ok l 0 h1
    rw [show ((0 : Nat) : Int) = 0 from rfl] at e0
    rw [e0] at q
    have hbl := bodyAt_length h1
    simp only at q
    clear e0
    by_cases h2 : kindAt l 0 = kind
    · by_cases h3 : 9 + sizeAt l 0 = len
      · have h4 : sizeAt l 0 < least := by simp [h1, h2, hl, h3] at h; omega
        have e1 : ((kindAt l 0 : Nat) : Int) = kind := by omega
        have e2 : ((0 + 9 + sizeAt l 0 : Nat) : Int) = (len : Int) := by omega
        rw [e1, e2] at q
        clear e1 e2 h h1 h2
        go_enter Tryz.func43, Tryz.ntmps43
        go_wp2_with (go_at_call 73; refine q.mono ?_; rintro e w' ⟨v, rfl, hown, hb⟩; obtain ⟨p, rfl, h5, h6⟩ := Part.of_own hown; have hpl : p.len = sizeAt l 0 := (by rw [← h6.1, h5, hbl]); have hpk : p.len < least := (by omega); clear hown h5 h6 hpl)
        have hd : decide (least ≤ p.len) = false := by simp; omega
        rw [hd]
        go_ret2
        exact ⟨p, rfl, hb⟩
      · have e1 : ((kindAt l 0 : Nat) : Int) = kind := by omega
        rw [e1] at q
        have e3 : (((0 + 9 + sizeAt l 0 : Nat) : Int) == (len : Int)) = false := by simp; omega
        generalize ((0 + 9 + sizeAt l 0 : Nat) : Int) = to at *
        clear e1 h h1 h2 h3 hbl
        go_enter Tryz.func43, Tryz.ntmps43
        go_wp2_with (go_at_call 73; refine q.mono ?_; rintro e w' ⟨v, rfl, hown, hb⟩; obtain ⟨p, rfl, h5, h6⟩ := Part.of_own hown; clear hown h5 h6)
        go_ret2
        exact ⟨p, rfl, hb⟩
    · have e3 : (((kindAt l 0 : Nat) : Int) == (kind : Int)) = false := by simp; omega
      generalize ((0 + 9 + sizeAt l 0 : Nat) : Int) = to at *
      generalize ((kindAt l 0 : Nat) : Int) = kd at *
      clear h h1 h2 hbl
      go_enter Tryz.func43, Tryz.ntmps43
      go_wp2_with (go_at_call 73; refine q.mono ?_; rintro e w' ⟨v, rfl, hown, hb⟩; obtain ⟨p, rfl, h5, h6⟩ := Part.of_own hown; clear hown h5 h6)
      go_ret2
      exact ⟨p, rfl, hb⟩
  · have e0 := unframeN_err l 0 h1
    rw [show ((0 : Nat) : Int) = 0 from rfl] at e0
    rw [e0] at q
    simp only at q
    have e3 : (unframeE l 0 == 0) = false := by simpa using h1
    generalize unframeE l 0 = ee at *
    clear e0 h h1
    go_enter Tryz.func43, Tryz.ntmps43
    go_wp2_with (go_at_call 73; refine q.mono ?_; rintro e w' ⟨v, rfl, hown, hb⟩; obtain ⟨p, rfl, h5, h6⟩ := Part.of_own hown; clear hown h5 h6)
    go_ret2
    exact ⟨p, rfl, hb⟩
end Go.Proofs.YtjldflfoncfndaaGreat
namespace Go.Proofs.YtjldflfoncfndaaGreat
open Go.RowKit

/-- Block B is a box of four values. -/
def Box4 (T : TypeId) (w : World) (B : Nat) (a b c d : Value) : Prop := w.heap[B]? = some (.cells #[a, b, c, d] T (0, 0))
theorem Box4.cs {T : TypeId} {w : World} {B : Nat} {a b c d : Value} (h : Box4 T w B a b c d) : w.cell? ⟨B, 0, none⟩ = some a ∧ w.cell? ⟨B, 1, none⟩ = some b ∧ w.cell? ⟨B, 2, none⟩ = some c ∧ w.cell? ⟨B, 3, none⟩ = some d := by
  refine ⟨?_, ?_, ?_, ?_⟩ <;> (rw [cell_of_row w B _ _ _ _ h]; rfl)
theorem Box4.free {T : TypeId} {w : World} {B : Nat} {a b c d : Value} (h : Box4 T w B a b c d) (i : Nat) : w.frozen? ⟨B, i, none⟩ = false := by
  unfold Box4 at h; simp [World.frozen?, h]
theorem Box4.below {T : TypeId} {w w' : World} {B N : Nat} {a b c d : Value} (h : Box4 T w B a b c d) (hb : Below N w w') (hN : B < N) : Box4 T w' B a b c d := (hb.block B hN).trans h
theorem Box4.new (T : TypeId) (w : World) (a b c d : Value) : Box4 T (w.alloc (.cells #[a, b, c, d] T)) w.heap.size a b c d := heap_alloc_last w _
theorem block_set4 {w : World} {g i : Nat} {cs : Array Value} {t : TypeId} {fr : Nat × Nat} (h : w.heap[g]? = some (.cells cs t fr)) (v : Value) : (w.setCell ⟨g, i, none⟩ v).heap[g]? = some (.cells (cs.setIfInBounds i v) t fr) := by
  rw [setCell_eq_setRow w g i cs t fr v h]
  exact setRow_heap w g _ _ t _ h
/-- Four values are stored in a box, cell by cell. -/
def set4 (w : World) (B : Nat) (a b c d : Value) : World := (((w.setCell ⟨B, 0, none⟩ a).setCell ⟨B, 1, none⟩ b).setCell ⟨B, 2, none⟩ c).setCell ⟨B, 3, none⟩ d
theorem Box4.set4 {T : TypeId} {w : World} {B : Nat} {a0 b0 c0 d0 : Value} (h : Box4 T w B a0 b0 c0 d0) (a b c d : Value) : Box4 T (set4 w B a b c d) B a b c d := by
  unfold Box4 at *
  exact block_set4 (block_set4 (block_set4 (block_set4 h _) _) _) _
theorem set4_below {N : Nat} {w0 w : World} (h : Below N w0 w) {B : Nat} (hB : N ≤ B) (a b c d : Value) : Below N w0 (set4 w B a b c d) :=
  (((h.setCell (p := ⟨B, 0, none⟩) hB _).setCell (p := ⟨B, 1, none⟩) hB _).setCell (p := ⟨B, 2, none⟩) hB _).setCell (p := ⟨B, 3, none⟩) hB _
theorem ret_reply {fn : Func} {p u : Tmp} (h : fn.results = #[.cell p 31, .tmp u]) (tmps : Array Value) (w : World) (g : Nat) (e t : Int) (s : Bool) (ad : Option Addr) (len cap : Nat)
    (hp : tmps.getD p undef = .pointer (some ⟨g, 0, none⟩)) (hg : Box4 31 w g (.int .i64 e) (.int .i64 t) (.bool s) (.slice ad len cap)) :
    (results fn tmps).run Tryz.prog w = .ok (.tuple #[repV e t s ad len cap, tmps.getD u undef]) w := by
  rw [results_cell_tmp h, hp]
  have hl := run_loadVar_row (P := Tryz.prog) w g 31 31 _ (0, 0) _ hg Tryz.underlying31 rfl (by kernel_rfl)
  simp only [asAddr, Sem.run_pure, Result.andThen_ok]
  rw [hl]
  rfl
theorem ret_request {fn : Func} {p u : Tmp} (h : fn.results = #[.cell p 27, .tmp u]) (tmps : Array Value) (w : World) (g : Nat) (k l q : Int) (ad : Option Addr) (len cap : Nat)
    (hp : tmps.getD p undef = .pointer (some ⟨g, 0, none⟩)) (hg : Box4 27 w g (.int .i64 k) (.int .i64 l) (.int .i64 q) (.slice ad len cap)) :
    (results fn tmps).run Tryz.prog w = .ok (.tuple #[reqV k l q ad len cap, tmps.getD u undef]) w := by
  rw [results_cell_tmp h, hp]
  have hl := run_loadVar_row (P := Tryz.prog) w g 27 27 _ (0, 0) _ hg Tryz.underlying27 rfl (by kernel_rfl)
  simp only [asAddr, Sem.run_pure, Result.andThen_ok]
  rw [hl]
  rfl
end Go.Proofs.YtjldflfoncfndaaGreat
namespace Go.Proofs.YtjldflfoncfndaaGreat
open Go.RowKit Crcm

/-- unpack of a frame with a body: where the body lies. -/
theorem unpack_at {z c : Int} (ad : Option Addr) (len cap : Nat) (l : List Nat) (kind least : Nat) (w : World) (hz : z = kind) (hc : c = least) (hp : Part.ok w ⟨ad, len, cap, l⟩) (hlc : len ≤ cap) (hm : len ≤ 1000000000000000) (h : unpackN l kind least = true) (h1 : 1 ≤ least) :
    Calls Tryz.prog 43 #[.slice ad len cap, .int .i64 z, .int .i64 c] w fun e w' => ∃ g n c : Nat, e = .returned (.tuple #[.slice (some ⟨g, 0, none⟩) n c, .bool true]) ∧ n = (bodyAt l 0).length ∧ least ≤ n ∧ n ≤ 65536 ∧ n ≤ c ∧ c ≤ maxLen ∧ w.heap.size ≤ g ∧ Part.ok w' ⟨some ⟨g, 0, none⟩, n, c, bodyAt l 0⟩ ∧ Below w.heap.size w w' := by
  have hl : least ≤ (bodyAt l 0).length ∧ (bodyAt l 0).length ≤ 65536 := by
    rw [unpackN_eq] at h
    simp at h
    rw [bodyAt_length h.1.1.1]
    exact ⟨h.2, (unframeE_zero h.1.1.1).1⟩
  refine (unpack_ok ad len cap l kind least w hz hc hp hlc hm h).mono ?_
  rintro e w' ⟨p, rfl, e1, k1, o1, b1⟩
  have hk : p.l.length = p.len := k1.out.1
  rw [e1.out] at hk
  rcases o1.out.2.2 with ⟨hv, h0⟩ | ⟨g, cap, cur, hv, hb, hg, hn, hm, hs, ht⟩
  · omega
  · injection hv with q1 q2 q3
    obtain ⟨pa, pn, pc, pl⟩ := p
    simp only at q1 q2 q3 hk
    have k2 := k1.out
    have e2 := e1.out
    simp only at e2
    subst q1 q2 q3 e2
    exact ⟨g, _, _, rfl, rfl, hl.1, hl.2, hn, hm, hb, k2, b1⟩
/-- What a reply's body tells. -/
def repE (b : List Nat) : Nat := valN (b.take 1)
def repT (b : List Nat) : Nat := valN (b.tail.take 2)
def repS (b : List Nat) : Nat := valN ((b.drop 3).take 1)
/-- The rest of a slice of bytes. -/
theorem part_rest {w : World} {g n c : Nat} {b : List Nat} (k : Nat) (h : Part.ok w ⟨some ⟨g, 0, none⟩, n, c, b⟩) (hk : k ≤ n) (o : Nat) (ho : k < n → o = k) : Part.ok w ⟨some ⟨g, o, none⟩, n - k, c - k, b.drop k⟩ := by
  have hl : b.length = n := h.1
  refine ⟨by simp [hl], (fun e => by cases e), fun x hx => h.2.2.1 x (List.mem_of_mem_drop hx), ?_⟩
  by_cases hkn : k < n
  · rw [ho hkn]
    rcases h.2.2.2 with h0 | ⟨b', off, e, hs, hc⟩
    · simp only at h0; rw [h0] at hl; simp at hl; omega
    · cases e
      refine Or.inr ⟨g, k, rfl, hs, fun i hi => ?_⟩
      simp only [List.length_drop] at hi hc
      have := hc (k + i) (by omega)
      rw [Nat.zero_add] at this
      rw [this]
      simp
  · exact Or.inl (List.drop_eq_nil_of_le (by omega))
/-- Behind the making of the reply: the box of the answer is as it was, the new one at G holds the reply. -/
structure Made (w wx : World) (G : Nat) (e t : Nat) (s : Bool) (ad : Option Addr) (len cap : Nat) (b : List Nat) : Prop where
  ans : Box4 31 wx w.heap.size (.int .i64 0) (.int .i64 0) (.bool false) (.slice none 0 0)
  new : Box4 31 wx G (.int .i64 e) (.int .i64 t) (.bool s) (.slice ad len cap)
  ne : w.heap.size < G
  sz : w.heap.size < wx.heap.size
  part : Part.ok wx ⟨ad, len, cap, b⟩
  below : Below w.heap.size w wx
theorem made_of {w W wx : World} {G e t n c g o : Nat} {s : Bool} {b : List Nat} (X : Box4 31 W w.heap.size (.int .i64 0) (.int .i64 0) (.bool false) (.slice none 0 0)) (Z : w.heap.size < W.heap.size) (B0 : Below w.heap.size w W) (K : Part.ok W ⟨some ⟨g, 0, none⟩, n, c, b⟩) (hk : 4 ≤ n) (ho : 4 < n → o = 4) (B : Below W.heap.size W wx) (hG : W.heap.size ≤ G)
    (N : Box4 31 wx G (.int .i64 e) (.int .i64 t) (.bool s) (.slice (some ⟨g, o, none⟩) (n - 4) (c - 4))) : Made w wx G e t s (some ⟨g, o, none⟩) (n - 4) (c - 4) (b.drop 4) :=
  ⟨X.below B Z, N, by omega, Nat.lt_of_lt_of_le Z B.size, (part_rest 4 K hk o ho).later B, B0.trans (B.mono B0.size)⟩
theorem repE_le {b : List Nat} (h : ∀ x ∈ b, x < 256) : repE b ≤ 255 := by
  have h1 := valN_lt (b.take 1) (fun x hx => h x (List.mem_of_mem_take hx))
  have h2 : (b.take 1).length ≤ 1 := by simp; omega
  unfold repE
  have h3 : 2 ^ (8 * (b.take 1).length) ≤ 2 ^ 8 := Nat.pow_le_pow_right (by omega) (by omega)
  omega
theorem part_set {w : World} {g o n c B i : Nat} {b : List Nat} {v : Value} (h : Part.ok w ⟨some ⟨g, o, none⟩, n, c, b⟩) (hne : B < g) : Part.ok (w.setCell ⟨B, i, none⟩ v) ⟨some ⟨g, o, none⟩, n, c, b⟩ := by
  refine ⟨h.1, h.2.1, h.2.2.1, ?_⟩
  rcases h.2.2.2 with h0 | ⟨b', off, e, hs, hc⟩
  · exact Or.inl h0
  · cases e
    refine Or.inr ⟨g, o, rfl, Nat.lt_of_lt_of_le hs ((Below.refl 0 w).setCell (p := ⟨B, i, none⟩) (Nat.zero_le _) v).size, fun j hj => ?_⟩
    exact (World.cell?_setCell_other w ⟨B, i, none⟩ ⟨g, o + j, none⟩ v (by intro hh; injection hh with h1; omega)).trans (hc j hj)
theorem part_set4 {w : World} {g o n c B : Nat} {b : List Nat} {x y z u : Value} (h : Part.ok w ⟨some ⟨g, o, none⟩, n, c, b⟩) (hne : B < g) : Part.ok (set4 w B x y z u) ⟨some ⟨g, o, none⟩, n, c, b⟩ := part_set (part_set (part_set (part_set h hne) hne) hne) hne
theorem Box4.lt {T : TypeId} {w : World} {B : Nat} {a b c d : Value} (h : Box4 T w B a b c d) : B < w.heap.size := by
  rcases Nat.lt_or_ge B w.heap.size with hlt | hge
  · exact hlt
  · unfold Box4 at h; rw [Array.getElem?_eq_none hge] at h; cases h
/-- P502: the body tells a reply that may be. -/
def repIn (b : List Nat) : Bool := decide (repS b ≤ 1) && decide (repT b ≤ 4096) && decide (b.length - 4 ≤ 65504)
theorem repIn_may {b : List Nat} {s n : Nat} (h : ∀ x ∈ b, x < 256) (hs : s = repS b) (hs1 : ¬ 1 < s) (hn : n = b.length) : repMay (repE b : Int) (repT b : Int) (n - 4) = repIn b := by
  have h1 := repE_le h
  subst hs hn
  unfold repMay repIn
  have e1 : decide (repS b ≤ 1) = true := by simp; omega
  have e2 : decide ((0 : Int) ≤ (repE b : Int)) = true := by simp
  have e3 : decide ((repE b : Int) ≤ 255) = true := by simp; omega
  have e4 : decide ((0 : Int) ≤ (repT b : Int)) = true := by simp
  have e5 : decide ((repT b : Int) ≤ 4096) = decide (repT b ≤ 4096) := by simp; omega
  rw [e1, e2, e3, e4, e5]
  simp
theorem repIn_no {b : List Nat} {s : Nat} (hs : s = repS b) (hs1 : 1 < s) : repIn b = false := by
  subst hs
  unfold repIn
  have e1 : decide (repS b ≤ 1) = false := by simp; omega
  rw [e1]; rfl
end Go.Proofs.YtjldflfoncfndaaGreat
namespace Go.Proofs.YtjldflfoncfndaaGreat
open Go.RowKit Crcm

set_option maxRecDepth 100000 in
set_option maxHeartbeats 4000000 in
theorem getReply_no1 (ad : Option Addr) (len cap : Nat) (l : List Nat) (w : World) (hp : Part.ok w ⟨ad, len, cap, l⟩) (hlc : len ≤ cap) (hm : len ≤ 1000000000000000) (h : unpackN l 2 4 = false) :
    Calls Tryz.prog 17 #[.slice ad len cap] w fun e w' => e = .returned (.tuple #[repV 0 0 false none 0 0, .int .i64 22]) ∧ Below w.heap.size w w' := by
  have HB : Hid (Below w.heap.size w (w.alloc (.cells #[.int .i64 0, .int .i64 0, .bool false, .slice none 0 0] 31))) := (show Hid _ from (Below.refl _ w).alloc (Nat.le_refl _) _)
  have Q := unpack_no (z := 2) (c := 4) ad len cap l 2 4 (w.alloc (.cells #[.int .i64 0, .int .i64 0, .bool false, .slice none 0 0] 31)) rfl rfl (hp.later HB.out) hlc hm h
  clear hp h hm hlc
  go_enter Tryz.func17, Tryz.ntmps17
  go_wp2_with (go_at_call 43; refine Q.mono ?_; rintro x W1 ⟨p, rfl, hb1⟩; have X : Hid (Box4 31 W1 w.heap.size _ _ _ _) := (show Hid _ from (Box4.new _ w _ _ _ _).below hb1 (by simp)); obtain ⟨c0, c1, c2, c3⟩ := X.out.cs; have f0 := X.out.free 0; have f1 := X.out.free 1; have f2 := X.out.free 2; have f3 := X.out.free 3; have hb2 : Hid (Below w.heap.size w W1) := (show Hid _ from HB.out.trans (hb1.mono HB.out.size)); clear hb1)
  refine bodyPost_ret (ret_reply Tryz.results17 _ _ w.heap.size 0 0 false none 0 0 rfl (X.out.set4 _ _ _ _)) rfl ⟨rfl, ?_⟩
  exact set4_below hb2.out (Nat.le_refl _) _ _ _ _
set_option maxRecDepth 100000 in
set_option maxHeartbeats 4000000 in
theorem getRequest_no1 (ad : Option Addr) (len cap : Nat) (l : List Nat) (w : World) (hp : Part.ok w ⟨ad, len, cap, l⟩) (hlc : len ≤ cap) (hm : len ≤ 1000000000000000) (h : unpackN l 1 9 = false) :
    Calls Tryz.prog 15 #[.slice ad len cap] w fun e w' => e = .returned (.tuple #[reqV 0 0 0 none 0 0, .int .i64 22]) ∧ Below w.heap.size w w' := by
  have HB : Hid (Below w.heap.size w (w.alloc (.cells #[.int .i64 0, .int .i64 0, .int .i64 0, .slice none 0 0] 27))) := (show Hid _ from (Below.refl _ w).alloc (Nat.le_refl _) _)
  have Q := unpack_no (z := 1) (c := 9) ad len cap l 1 9 (w.alloc (.cells #[.int .i64 0, .int .i64 0, .int .i64 0, .slice none 0 0] 27)) rfl rfl (hp.later HB.out) hlc hm h
  clear hp h hm hlc
  go_enter Tryz.func15, Tryz.ntmps15
  go_wp2_with (go_at_call 43; refine Q.mono ?_; rintro x W1 ⟨p, rfl, hb1⟩; have X : Hid (Box4 27 W1 w.heap.size _ _ _ _) := (show Hid _ from (Box4.new _ w _ _ _ _).below hb1 (by simp)); obtain ⟨c0, c1, c2, c3⟩ := X.out.cs; have f0 := X.out.free 0; have f1 := X.out.free 1; have f2 := X.out.free 2; have f3 := X.out.free 3; have hb2 : Hid (Below w.heap.size w W1) := (show Hid _ from HB.out.trans (hb1.mono HB.out.size)); clear hb1)
  refine bodyPost_ret (ret_request Tryz.results15 _ _ w.heap.size 0 0 0 none 0 0 rfl (X.out.set4 _ _ _ _)) rfl ⟨rfl, ?_⟩
  exact set4_below hb2.out (Nat.le_refl _) _ _ _ _
end Go.Proofs.YtjldflfoncfndaaGreat
