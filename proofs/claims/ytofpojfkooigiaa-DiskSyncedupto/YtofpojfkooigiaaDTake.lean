/- take of package disk: a version becomes durable, or nothing is left. -/
import Derived.Test.YtofpojfkooigiaaDWrite
namespace Go.Proofs.Ytofpojfkooigiaa
open Go.RowKit
variable {w w' : World} {F : List Nat} {D B M : Nat} {Dm : DataW Value} {V C : Nat → Nat} {s : DSt}

theorem setB_self {s : DSt} {i : Nat} (hi : i < s.bs.length) : s.setB i ⟨(s.at i).dur, (s.at i).vs⟩ = s := by
  have e : s.at i = s.bs[i] := by unfold DSt.at; rw [List.getD_eq_getElem?_getD, List.getElem?_eq_getElem hi]; rfl
  show (⟨s.bs.set i (s.at i), s.off, s.fuse⟩ : DSt) = s
  rw [e, List.set_getElem_self]
theorem row_fit (h : Pic w F D B M Dm V C s) {i : Nat} (hi : i < s.bs.length) (l : List Value) (hl : l.length = 257) : i * 257 + l.length ≤ (s.bs.flatMap durV).toArray.size := by
  rw [List.size_toArray, flat_len durV 257 s.bs h.durs, hl]
  omega
theorem Pic.dur' (h : Pic w F D B M Dm V C s) {i : Nat} (hi : i < s.bs.length) (d : Option (List Nat)) (hd : ∀ t, d = some t → t.length = 256 ∧ ∀ y ∈ t, y < 256) (l : List Value) (hl : l = durV ⟨d, []⟩) :
    Pic (w.setRow B ((s.bs.flatMap durV).toArray.toList.take (i * 257) ++ l ++ (s.bs.flatMap durV).toArray.toList.drop (i * 257 + l.length)).toArray) F D B M Dm V C (s.setB i ⟨d, (s.at i).vs⟩) ∧
    Chg [B] w (w.setRow B ((s.bs.flatMap durV).toArray.toList.take (i * 257) ++ l ++ (s.bs.flatMap durV).toArray.toList.drop (i * 257 + l.length)).toArray) := by
  have hc : Chg [B] w (w.setRow B ((s.bs.flatMap durV).toArray.toList.take (i * 257) ++ l ++ (s.bs.flatMap durV).toArray.toList.drop (i * 257 + l.length)).toArray) :=
    ⟨rfl, rfl, rfl, by rw [setRow_size]; exact Nat.le_refl _, fun k _ hk => setRow_other w B k _ (by simpa using hk)⟩
  refine ⟨h.dur hi d hd hc ?_, hc⟩
  rw [setRow_heap w B _ _ TD _ h.hB, hl]
  have e : (durV ⟨d, []⟩).length = 257 := durV_len hd
  rw [e]
/-- A durable text is stored. -/
theorem store_dur {ops : Array Oper} {rest : List Oper} {o : Oper} {a : Act} {Q : Exit → Act → World → Prop} (h : Pic w F D B M Dm V C s) {i : Nat} (hi : i < s.bs.length) (d : Option (List Nat)) (hd : ∀ t, d = some t → t.length = 256 ∧ ∀ y ∈ t, y < 256) (hgd : o.guard = none) (x y : Operand) (ho : o.op = .store TD x y)
    (hx : a.eval x = .pointer (some ⟨B, i * 257, none⟩)) (hy : a.eval y = .agg (durV ⟨d, []⟩).toArray)
    (hK : ∀ w', Pic w' F D B M Dm V C (s.setB i ⟨d, (s.at i).vs⟩) → Chg [B] w w' → wpList Try.prog ops Q rest (a.put o.dst undef) w') : wpList Try.prog ops Q (o :: rest) a w := by
  have hl : (durV ⟨d, []⟩).length = 257 := durV_len hd
  have fin := h.dur' hi d hd _ rfl
  exact store_wide hgd TD x y ho (durV ⟨d, []⟩) (by rw [hl]; exact sizeD) B (i * 257) hx hy TD _ h.hB (row_fit h hi _ hl) (durV_one _) (hK _ fin.1 fin.2)
set_option maxRecDepth 100000 in
set_option maxHeartbeats 2000000 in
theorem take_pic (h : Pic w F D B M Dm V C s) (i : Nat) (hi : i < s.bs.length) (hv : (s.at i).vs ≠ []) (c : Int) (hc1 : -9223372036854775808 ≤ c) (hc2 : c ≤ 9223372036854775807) :
    Calls Try.prog 45 #[.pointer (some ⟨B, i * 257, none⟩), .slice (some ⟨V i, 0, none⟩) (s.at i).vs.length (C i), .int .i64 c] w fun e w' => e = .returned (.tuple #[]) ∧ Pic w' F D B M Dm V C (s.setB i ⟨((s.at i).crash c).dur, (s.at i).vs⟩) ∧ Chg [B] w w' := by
  have HP : Hid (Pic w F D B M Dm V C s) := h
  have HV : Hid ((s.at i).vs ≠ []) := hv
  have hmax : (s.at i).vs.length ≤ maxLen := by obtain ⟨cur, _, r1, r2, _⟩ := h.rowBlock hi hv; omega
  unfold maxLen at hmax
  clear h hv
  by_cases h0 : c = 0
  · subst h0
    have e : s.setB i ⟨((s.at i).crash 0).dur, (s.at i).vs⟩ = s := setB_self hi
    rw [e]
    go_enter Try.func45, Try.ntmps45
    go_wp2
    refine bodyPost_ret (results_none rfl _ _ _) rfl ?_
    exact ⟨rfl, HP.out, Chg.refl _ _⟩
  · have hne : (c == 0) = false := by simpa using h0
    by_cases h1 : 0 < c ∧ c ≤ (s.at i).vs.length
    · have e : ((s.at i).crash c).dur = some ((s.at i).vs.getD (c.toNat - 1) []) := by
        unfold DBlock.crash
        rw [if_neg h0, if_pos h1]
      obtain ⟨l, hl⟩ : ∃ l, (s.at i).vs[c.toNat - 1]? = some l := ⟨(s.at i).vs[c.toNat - 1]'(by omega), List.getElem?_eq_getElem _⟩
      have e2 : (s.at i).vs.getD (c.toNat - 1) [] = l := by rw [List.getD_eq_getElem?_getD, hl]; rfl
      rw [e, e2]
      have hm : l ∈ (s.at i).vs := List.mem_of_getElem? hl
      have h256 : (verV l).length = 256 := HP.out.vers hi l hm
      have hlok := HP.out.ok.vs _ (at_mem hi) l hm
      have HC : Hid (∀ j, j < (verV l).length → w.cell? ⟨V i, (c.toNat - 1) * 256 + j, none⟩ = (verV l)[j]?) := HP.out.verCell hi HV.out hl
      have HL : Hid (l.length = 256 ∧ ∀ y ∈ l, y < 256) := hlok
      clear e e2 hl hm hlok
      obtain ⟨m, hm⟩ : ∃ m, (s.at i).vs.length = m := ⟨_, rfl⟩
      rw [hm] at h1 hmax ⊢
      clear hm
      have hpos : 0 < c := h1.1
      have hle : c ≤ (m : Int) := h1.2
      clear h1 h0
      go_enter Try.func45, Try.ntmps45
      go_wp2_with (first
        | (refine load_wide rfl TB _ rfl _ Try.underlying71 rfl (verV l) (by rw [h256]; exact sizeB) (V i) ((c.toNat - 1) * 256) rfl HC.out ?_)
        | (refine build_text rfl _ rfl _ rfl (verV l ++ [Value.bool false]) ?_ ?_; (exact fun w => run_buildD w _ h256))
        | (refine store_dur HP.out hi (some l) (fun t ht => by cases ht; exact HL.out) rfl _ _ rfl rfl rfl ?_; intro w2 hp2 hc2))
      refine bodyPost_end (results_none rfl _ _ _) rfl ⟨rfl, hp2, hc2⟩
    · have e : ((s.at i).crash c).dur = none := by
        unfold DBlock.crash
        rw [if_neg h0, if_neg h1]
      rw [e]
      clear e
      obtain ⟨m, hm⟩ : ∃ m, (s.at i).vs.length = m := ⟨_, rfl⟩
      rw [hm] at h1 hmax ⊢
      clear hm
      by_cases h2 : c < 0
      · go_enter Try.func45, Try.ntmps45
        go_wp2_with (first
          | (refine build_bad rfl rfl (z256 ++ [Value.bool true]) ?_ ?_; (exact fun w => run_buildBad w))
          | (refine store_dur HP.out hi none (fun t ht => by cases ht) rfl _ _ rfl rfl rfl ?_; intro w2 hp2 hc2))
        refine bodyPost_ret (results_none rfl _ _ _) rfl ⟨rfl, hp2, hc2⟩
      · have h3 : (m : Int) < c := by omega
        go_enter Try.func45, Try.ntmps45
        go_wp2_with (first
          | (refine build_bad rfl rfl (z256 ++ [Value.bool true]) ?_ ?_; (exact fun w => run_buildBad w))
          | (refine store_dur HP.out hi none (fun t ht => by cases ht) rfl _ _ rfl rfl rfl ?_; intro w2 hp2 hc2))
        refine bodyPost_ret (results_none rfl _ _ _) rfl ⟨rfl, hp2, hc2⟩
end Go.Proofs.Ytofpojfkooigiaa
