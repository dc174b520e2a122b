import Derived.Test.YtodpkdajbnceoaaGreatDoorPart26
set_option linter.all false
set_option maxHeartbeats 4000000
set_option maxRecDepth 100000
namespace Go.Proofs.YtodpkdajbnceoaaGreatDoor
open Go.RowKit
mutual
def fourE : Ex → Prop
  | .cmp _ args => args.length ≤ 4 ∧ fourL args
  | _ => True
def fourL : List Ex → Prop
  | [] => True
  | x :: l => fourE x ∧ fourL l
end
theorem fourL_snoc : ∀ {l : List Ex} {x : Ex}, fourL l → fourE x → fourL (l ++ [x])
  | [], _, _, h => ⟨h, trivial⟩
  | _ :: _, _, h, q => ⟨h.1, fourL_snoc h.2 q⟩
mutual
theorem exOk_of {n : Nat} : ∀ {x : Ex}, short x → varsIn n x → fourE x → exOk n x
  | .atom _, h, _, _ => h
  | .num v, h, _, _ => ⟨by have := h.1; omega, by have := h.2; omega⟩
  | .var _, _, h, _ => h
  | .cmp _ args, h1, h2, h3 => ⟨⟨h3.1, h1.1⟩, exOkL_of (l := args) h1.2 h2 h3.2⟩
theorem exOkL_of {n : Nat} : ∀ {l : List Ex}, shortL l → varsInL n l → fourL l → exOkL n l
  | [], _, _, _ => trivial
  | _ :: _, h1, h2, h3 => ⟨exOk_of h1.1 h2.1 h3.1, exOkL_of h1.2 h2.2 h3.2⟩
end
def PartF (part : St → R Ex) : Prop := ∀ st x st', part st = .ok (x, st') → fourE x
theorem ops_four {toks : List Tok} {part : St → R Ex} {isOp : Tok → Bool} (hp : PartF part) : ∀ (f : Nat) (x : Ex) (st : St) (y : Ex) (st' : St), fourE x → opsLoop toks part isOp f x st = .ok (y, st') → fourE y
  | 0, x, st, y, st', h, e => by rw [opsLoop] at e; cases e; exact h
  | f + 1, x, st, y, st', h, e => by
    rw [opsLoop] at e
    split at e
    · split at e
      · cases e
      · rename_i z st1 hz
        exact ops_four hp f (.cmp (tk toks st.1).t [x, z]) st1 y st' ⟨by simp, h, hp _ _ _ hz, trivial⟩ e
    · cases e; exact h
theorem product_four {toks : List Tok} {prim : St → R Ex} (hp : PartF prim) : PartF (productOf toks prim) := by
  intro st x st' e
  unfold productOf at e
  split at e
  · cases e
  · rename_i y st1 hy
    exact ops_four hp _ _ _ _ _ (hp _ _ _ hy) e
theorem expr_four {toks : List Tok} {prim : St → R Ex} (hp : PartF prim) : PartF (exprOf toks prim) := by
  intro st x st' e
  unfold exprOf at e
  split at e
  · cases e
  · rename_i y st1 hy
    exact ops_four (product_four hp) _ _ _ _ _ (product_four hp _ _ _ hy) e
theorem row_four {toks : List Tok} {ex : St → R Ex} (hp : PartF ex) : ∀ (f : Nat) (acc : List Ex) (st : St) (l : List Ex) (st' : St), fourL acc → rowOf toks ex f acc st = .ok (l, st') → fourL l
  | 0, acc, st, l, st', h, e => by rw [rowOf] at e; cases e; exact h
  | f + 1, acc, st, l, st', h, e => by
    rw [rowOf] at e
    split at e
    · cases e
    · rename_i x st1 hx
      split at e
      · exact row_four hp f _ _ l st' (fourL_snoc h (hp _ _ _ hx)) e
      · cases e; exact fourL_snoc h (hp _ _ _ hx)
theorem args_four {toks : List Tok} {ex : St → R Ex} (hp : PartF ex) {a : Nat} {st st' : St} {l : List Ex} (e : argsOf toks ex a st = .ok (l, st')) : l.length ≤ 4 ∧ fourL l := by
  unfold argsOf at e
  split at e
  · cases e
  · rename_i l' st1 hl
    split at e
    · cases e
    · rename_i h4
      cases e
      exact ⟨by omega, row_four hp _ [] _ _ _ trivial hl⟩
theorem fold_four : ∀ (l : List Ex) (r : Ex), fourL l → fourE r → fourE (l.foldr cellEx r)
  | [], _, _, h => h
  | _ :: l, r, h, q => ⟨by simp, h.1, fold_four l r h.2 q, trivial⟩
theorem list_four {toks : List Tok} {ex : St → R Ex} (hp : PartF ex) : PartF (listOf toks ex) := by
  intro st x st' e
  unfold listOf at e
  split at e
  · cases e; exact trivial
  · split at e
    · cases e
    · rename_i l st1 hl
      have hf := row_four hp _ [] _ _ _ trivial hl
      split at e
      · split at e
        · cases e
        · rename_i r st2 hr
          rw [(must_ok e).1]
          exact fold_four l r hf (hp _ _ _ hr)
      · rw [(must_ok e).1]
        exact fold_four l nilEx hf trivial
theorem bare_four {toks : List Tok} {ex : St → R Ex} (hp : PartF ex) : PartF (bareOf toks ex) := by
  intro st x st' e
  unfold bareOf at e
  simp only at e
  split at e
  · cases e; exact trivial
  split at e
  · unfold varOf at e
    split at e
    · cases e; exact trivial
    · split at e
      · cases e
      · cases e; exact trivial
  split at e
  · split at e
    · split at e
      · cases e
      · rename_i l st1 hl
        rw [(must_ok e).1]
        exact args_four hp hl
    · cases e; exact trivial
  split at e
  · split at e
    · cases e; exact trivial
    · cases e
  split at e
  · split at e
    · cases e
    · rename_i y st1 hy
      rw [(must_ok e).1]
      exact hp _ _ _ hy
  split at e
  · exact list_four hp _ _ _ e
  · cases e
theorem prim_four (toks : List Tok) : ∀ k, PartF (primS toks k)
  | 0 => fun st x st' e => by rw [primS] at e; cases e
  | k + 1 => fun st x st' e => by
    rw [primS] at e
    exact bare_four (expr_four (prim_four toks k)) _ _ _ e
mutual
theorem exOk.mono {n m : Nat} (h : n ≤ m) : ∀ {x : Ex}, exOk n x → exOk m x
  | .atom _, q => q
  | .num _, q => q
  | .var k, q => Nat.lt_of_lt_of_le (show k < n from q) h
  | .cmp _ args, q => ⟨q.1, exOkL.mono h (l := args) q.2⟩
theorem exOkL.mono {n m : Nat} (h : n ≤ m) : ∀ {l : List Ex}, exOkL n l → exOkL m l
  | [], _ => trivial
  | _ :: _, q => ⟨exOk.mono h q.1, exOkL.mono h q.2⟩
end
mutual
theorem bdOk.mono {n m : Nat} (h : n ≤ m) : ∀ {b : Bd}, bdOk n b → bdOk m b
  | .mk _ _ _ parts, q => ⟨exOkL.mono h q.1, q.2.1, q.2.2.1, q.2.2.2.1, bdOkL.mono h (l := parts) q.2.2.2.2⟩
theorem bdOkL.mono {n m : Nat} (h : n ≤ m) : ∀ {l : List Bd}, bdOkL n l → bdOkL m l
  | [], _ => trivial
  | _ :: _, q => ⟨bdOk.mono h q.1, bdOkL.mono h q.2⟩
end
theorem bdOkL_snoc {n : Nat} : ∀ {l : List Bd} {x : Bd}, bdOkL n l → bdOk n x → bdOkL n (l ++ [x])
  | [], _, _, h => ⟨h, trivial⟩
  | _ :: _, _, h, q => ⟨h.1, bdOkL_snoc h.2 q⟩
structure BGot (toks : List Tok) (st st' : St) (b : Bd) : Prop where
  ext : Ext toks st.2 st'.2
  ok : bdOk st'.2.length b
def BPart (toks : List Tok) (lit : St → R Bd) : Prop := ∀ st b st', lit st = .ok (b, st') → BGot toks st st' b
theorem ext_refl (toks : List Tok) (a : List ByteArray) : Ext toks a a := ⟨[], by simp⟩
theorem leaf_ok {n : Nat} {nm : ByteArray} {args : List Ex} (h : exOkL n args) (hs : szL args ≤ 2001) : bdOk n (.mk 103 nm args []) := ⟨h, hs, .inr (.inr (.inr (.inr (.inr rfl)))), by simp, trivial⟩
theorem must_b {α : Type} {toks : List Tok} {s : List UInt8} {x y : α} {st st' : St} (h : mustT toks s x st = .ok (y, st')) : y = x ∧ st'.2 = st.2 := by
  obtain ⟨h1, h2, _⟩ := must_ok h
  exact ⟨h1, by rw [h2]⟩
section
variable {toks : List Tok} (htl : toks.length ≤ 2001)
include htl
theorem plain_b {ex : St → R Ex} (hp : PartOk toks ex) (hf : PartF ex) : BPart toks (plainOf toks ex) := by
  intro st b st' e
  unfold plainOf at e
  split at e
  · cases e
  · rename_i x s1 hx
    have g1 := hp _ _ _ hx
    have f1 := hf _ _ _ hx
    split at e
    · split at e
      · cases e
      · rename_i y s2 hy
        have g2 := hp _ _ _ hy
        have f2 := hf _ _ _ hy
        cases e
        have hle := ext_le g2.ext
        refine ⟨ext_trans g1.ext g2.ext, leaf_ok ⟨(exOk_of g1.short g1.vars f1).mono hle, exOk_of g2.short g2.vars f2, trivial⟩ ?_⟩
        have a := g1.size; have b := g2.size; have c := g2.le
        simp only at b
        simp only [szL]
        omega
    · unfold callOf at e
      split at e
      · cases e
      split at e
      · cases e
      · cases e
        refine ⟨g1.ext, leaf_ok ?_ ?_⟩
        · have ho := exOk_of g1.short g1.vars f1
          cases x with
          | cmp n l => exact ho.2
          | _ => exact trivial
        · have a := g1.size; have c := g1.le
          cases x with
          | cmp n l => simp only [exArgs]; simp only [szE] at a; omega
          | _ => simp [exArgs, szL]
theorem goal_b {lit body : St → R Bd} {ex : St → R Ex} (hl : BPart toks lit) (hb : BPart toks body) (hp : PartOk toks ex) (hf : PartF ex) : BPart toks (goalOf toks lit body ex) := by
  intro st b st' e
  unfold goalOf at e
  split at e
  · cases e
    exact ⟨ext_refl _ _, trivial, by simp [szL], .inl rfl, by simp, trivial⟩
  split at e
  · cases hq : lit (st.1 + 1, st.2) with
    | error q => rw [hq] at e; cases e
    | ok p =>
      obtain ⟨b1, s1⟩ := p
      rw [hq] at e
      cases e
      have g := hl _ _ _ hq
      exact ⟨g.ext, trivial, by simp [szL], .inr (.inr (.inr (.inr (.inl ⟨rfl, rfl⟩)))), by simp, g.ok, trivial⟩
  split at e
  · cases hq : body (st.1 + 1, st.2) with
    | error q => rw [hq] at e; cases e
    | ok p =>
      obtain ⟨b1, s1⟩ := p
      rw [hq] at e
      have g := hb _ _ _ hq
      obtain ⟨m1, m2⟩ := must_b (x := b1) (st := s1) e
      subst m1
      exact ⟨by rw [m2]; exact g.ext, by rw [m2]; exact g.ok⟩
  · exact plain_b htl hp hf _ _ _ e
omit htl in
theorem row_b {lit : St → R Bd} (hl : BPart toks lit) : ∀ (f : Nat) (acc : List Bd) (st : St) (l : List Bd) (st' : St), bdOkL st.2.length acc → rowG toks lit f acc st = .ok (l, st') → Ext toks st.2 st'.2 ∧ bdOkL st'.2.length l ∧ l.length ≤ acc.length + f
  | 0, acc, st, l, st', h, e => by rw [rowG] at e; cases e; exact ⟨ext_refl _ _, h, by omega⟩
  | f + 1, acc, st, l, st', h, e => by
    rw [rowG] at e
    split at e
    · cases e
    · rename_i x s1 hx
      have g := hl _ _ _ hx
      have hs := bdOkL_snoc (bdOkL.mono (ext_le g.ext) h) g.ok
      split at e
      · obtain ⟨r1, r2, r3⟩ := row_b hl f _ _ l st' (show bdOkL (s1.1 + 1, s1.2).2.length _ from hs) e
        exact ⟨ext_trans g.ext r1, r2, by simp at r3; omega⟩
      · cases e
        exact ⟨g.ext, hs, by simp⟩
theorem rowBd_b {lit : St → R Bd} (hl : BPart toks lit) : BPart toks (rowBd toks lit) := by
  intro st b st' e
  unfold rowBd at e
  cases hq : rowG toks lit (toks.length + 1) [] st with
  | error q => rw [hq] at e; cases e
  | ok p =>
    obtain ⟨l, s1⟩ := p
    rw [hq] at e
    obtain ⟨r1, r2, r3⟩ := row_b hl _ [] st l s1 trivial hq
    cases e
    refine ⟨r1, ?_⟩
    have hlen : l.length ≤ 3000 := by simp at r3; omega
    unfold rowOne
    split
    · exact r2.1
    · exact ⟨trivial, by simp [szL], .inr (.inl rfl), hlen, r2⟩
theorem body_b {lit rest : St → R Bd} (hl : BPart toks lit) (hr : BPart toks rest) : BPart toks (bodyOf toks lit rest) := by
  intro st b st' e
  unfold bodyOf at e
  split at e
  · cases e
  · rename_i a s1 ha
    have g1 := rowBd_b htl hl _ _ _ ha
    split at e
    · cases hq : rowBd toks lit (s1.1 + 1, s1.2) with
      | error q => rw [hq] at e; cases e
      | ok p =>
        obtain ⟨b2, s2⟩ := p
        rw [hq] at e
        have g2 := rowBd_b htl hl _ _ _ hq
        have hle := ext_le g2.ext
        unfold thenOf at e
        simp only at e
        split at e
        · split at e
          · cases e
          · rename_i c s3 hc
            have g3 := hr _ _ _ hc
            have hle3 := ext_le g3.ext
            cases e
            exact ⟨ext_trans (ext_trans g1.ext g2.ext) g3.ext, trivial, by simp [szL], .inr (.inr (.inr (.inl ⟨rfl, rfl⟩))), by simp, (g1.ok.mono hle).mono hle3, g2.ok.mono hle3, g3.ok, trivial⟩
        · cases e
          exact ⟨ext_trans g1.ext g2.ext, trivial, by simp [szL], .inr (.inr (.inr (.inl ⟨rfl, rfl⟩))), by simp, g1.ok.mono hle, g2.ok, leaf_ok trivial (by simp [szL]), trivial⟩
    split at e
    · cases hq : rest (s1.1 + 1, s1.2) with
      | error q => rw [hq] at e; cases e
      | ok p =>
        obtain ⟨b2, s2⟩ := p
        rw [hq] at e
        have g2 := hr _ _ _ hq
        cases e
        exact ⟨ext_trans g1.ext g2.ext, trivial, by simp [szL], .inr (.inr (.inl ⟨rfl, rfl⟩)), by simp, g1.ok.mono (ext_le g2.ext), g2.ok, trivial⟩
    · cases e; exact g1
theorem litRest_b (hg : GoodToks toks) (hn : ∀ i, (tk toks i).t.size ≤ 2000) : ∀ k, BPart toks (litRest toks k).1 ∧ BPart toks (litRest toks k).2
  | 0 => ⟨fun st b st' e => (by simp [litRest] at e), fun st b st' e => (by simp [litRest] at e)⟩
  | k + 1 => by
    obtain ⟨h1, h2⟩ := litRest_b hg hn k
    have hb := body_b htl h1 h2
    rw [litRest]
    exact ⟨goal_b htl h1 hb (expr_got (prim_got hg hn k) hn) (expr_four (prim_four toks k)), hb⟩
theorem bodyS_b (hg : GoodToks toks) (hn : ∀ i, (tk toks i).t.size ≤ 2000) (k : Nat) : BPart toks (bodyS toks k) := by
  obtain ⟨h1, h2⟩ := litRest_b htl hg hn k
  exact body_b htl h1 h2
end
theorem wordK_var {l : List UInt8} (h : wordK l = 118) : 1 ≤ l.length := by
  cases l with
  | nil => exact absurd h (by decide)
  | cons a l => simp
theorem lex_vok {s : ByteArray} : ∀ (f i : Nat) (acc l : List Tok), lexGo s f i acc = .ok l → (∀ t ∈ acc, t.k = 118 → 1 ≤ t.t.size) → ∀ t ∈ l, t.k = 118 → 1 ≤ t.t.size
  | 0, i, acc, l, h, hg => by cases h; exact hg
  | f + 1, i, acc, l, h, hg => by
    rw [lexGo] at h
    split at h
    · split at h
      · exact lex_vok f (i + 1) acc l h hg
      · split at h
        · split at h
          · cases h
          · refine lex_vok f _ _ l h (fun t ht => ?_)
            rcases List.mem_append.1 ht with ht | ht
            · exact hg t ht
            · have ht := List.mem_singleton.1 ht
              subst ht
              intro hk
              have h2 := wordK_var hk
              rw [Array.length_toList] at h2
              exact h2
        · split at h
          · cases h
          · refine lex_vok f _ _ l h (fun t ht => ?_)
            rcases List.mem_append.1 ht with ht | ht
            · exact hg t ht
            · have ht := List.mem_singleton.1 ht
              subst ht
              exact fun hk => absurd hk (by show (115 : Int) ≠ 118; decide)
    · cases h; exact hg
theorem vok_end {s : ByteArray} {l : List Tok} (h : lexS s = .ok l) : VOk (withEnd s l) := fun i hk => by
  have hl' := lex_vok s.size 0 [] l h (by simp)
  unfold tk at hk ⊢
  rw [List.getD_eq_getElem?_getD] at hk ⊢
  cases q : (withEnd s l)[i]? with
  | none =>
    rw [q] at hk
    exact absurd hk (by show (101 : Int) ≠ 118; decide)
  | some t =>
    rw [q] at hk
    simp only [Option.getD_some] at hk ⊢
    have hm := List.mem_of_getElem? q
    unfold withEnd at hm
    rcases List.mem_append.1 hm with hm | hm
    · exact hl' t hm hk
    · have := List.mem_singleton.1 hm
      subst this
      exact absurd hk (by show (101 : Int) ≠ 118; decide)
theorem names_end {s : ByteArray} {l : List Tok} (hs : s.size ≤ 2000) (hl : lexS s = .ok l) : ∀ i, (tk (withEnd s l) i).t.size ≤ 2000 := fun i => by
  have hl' := lex_names s.size 0 [] l hl (by simp)
  unfold tk
  rw [List.getD_eq_getElem?_getD]
  cases q : (withEnd s l)[i]? with
  | none => simp
  | some t =>
    simp only [Option.getD_some]
    have hm := List.mem_of_getElem? q
    unfold withEnd at hm
    rcases List.mem_append.1 hm with hm | hm
    · have := hl' t hm; omega
    · have := List.mem_singleton.1 hm; subst this; simp
theorem quest_b {s : ByteArray} {b : Bd} {vars : List ByteArray} (h : questS s = .ok (b, vars)) : bdOk vars.length b ∧ ∀ x ∈ vars, 1 ≤ x.size ∧ x.size ≤ 2000 := by
  unfold questS at h
  split at h
  · cases h
  · rename_i hs
    split at h
    · cases h
    · rename_i l hl
      have hg := good_toks (s := s) (by omega) hl
      have hn := names_end (s := s) (by omega) hl
      cases hb : bodyS (withEnd s l) 8 (0, []) with
      | error e => rw [hb] at h; cases h
      | ok r =>
        obtain ⟨y, st⟩ := r
        rw [hb] at h
        have g := bodyS_b (by have := hg.small; omega) hg hn 8 _ _ _ hb
        simp only [questEnd] at h
        split at h
        · split at h
          · cases h
            refine ⟨g.ok, fun x hx => ?_⟩
            obtain ⟨m, e, hm⟩ := g.ext
            have e' : st.2 = m := by rw [e]; simp
            rw [e'] at hx
            exact hm (vok_end hl) x hx
          · cases h
        · cases h
theorem prog_a : progS (B [97, 46]) = .ok [⟨B [97], [], .mk 103 (B [116, 114, 117, 101]) [] [], []⟩] := by kernel_rfl
def BaseP (w : World) (p : Nat) : Prop := ∃ m : Option Nat, w.heap[p]? = some (.cells #[.map m] 194 (0, 0))
theorem BaseP.keep {w w' : World} {p : Nat} (h : BaseP w p) (hk : ∀ (b : Nat) (cs : Array Value), w.heap[b]? = some (.cells cs 194 (0, 0)) → w'.heap[b]? = w.heap[b]?) : BaseP w' p := by
  obtain ⟨m, q⟩ := h
  exact ⟨m, (hk p _ q).trans q⟩
def LoadA (w : World) (e : Ending) (w' : World) : Prop :=
  Below w.heap.size w w' ∧ ∃ (p : Nat) (a : Int), e = .returned (.tuple #[.pointer (some ⟨p, 0, none⟩), .int .i64 0, .int .i64 a]) ∧ BaseP w' p
def LdA (w : World) (e : Ending) (w' : World) : Prop :=
  Below w.heap.size w w' ∧ ∃ (p : Nat) (ao : Option Addr) (cap : Nat) (h : Bool), e = .returned (.tuple #[.agg #[.pointer (some ⟨p, 0, none⟩), .slice ao 1 cap, .bool h], .bool true]) ∧ BaseP w' p ∧
    ∃ (g bc : Nat) (av k m ba bq vv : Value) (c : Cl), BaseIs w' w'.heap.size (.slice ao 1 cap) g bc av k m ba bq vv c
theorem baseIs_of {w W : World} {n0 cap : Nat} {ao : Option Addr} {cs : List Value} {l : List Cl} (hl : l = [⟨B [97], [], .mk 103 (B [116, 114, 117, 101]) [] [], []⟩]) (hown : w.ownsRow n0 50 7 (.slice ao 1 cap) 1 cs) (hr : CRepL w (fun b => n0 ≤ b) l cs) (hf : ∀ b, n0 ≤ b → b < w.heap.size → W.heap[b]? = w.heap[b]?) (hs : w.heap.size ≤ W.heap.size) :
    ∃ (g bc : Nat) (av k m ba bq vv : Value) (c : Cl), BaseIs W W.heap.size (.slice ao 1 cap) g bc av k m ba bq vv c := by
  subst hl
  obtain ⟨g, y0, y1, y2, y3, y4, y5, y6, y7, y8, y9, y10, y11, y12, y13, y14, rfl, hc1, hc2, hg, q0, q1, q2, q3, q4, q5, q6, hC⟩ := clause_elem hown hr rfl (k := 0) (by simp)
  have hgn : n0 ≤ g := (hown.lt g rfl).1
  have hcl : ∀ j, W.cell? ⟨g, j, none⟩ = w.cell? ⟨g, j, none⟩ := fun j => by unfold World.cell?; rw [hf g hgn hg]
  obtain ⟨av, k, m, ba, bq, vv, e, ha, hb, hv⟩ := hC
  cases e
  have hb' : BRep W (fun b => b < W.heap.size) (.mk 103 (B [116, 114, 117, 101]) [] []) [.int .u8 y4, .string y5, .slice y6 y7 y8, .slice y9 y10 y11] := BRep.frame (w := w) (w' := W) (Ok := fun b => n0 ≤ b) (Ok' := fun b => b < W.heap.size) (fun b q1 q2 => ⟨hf b q1 q2, Nat.lt_of_lt_of_le q2 hs⟩) hb
  refine ⟨g, cap, .slice y1 y2 y3, .int .u8 y4, .string y5, .slice y6 y7 y8, .slice y9 y10 y11, .slice y12 y13 y14, ⟨B [97], [], .mk 103 (B [116, 114, 117, 101]) [] [], []⟩, ⟨rfl, Nat.lt_of_lt_of_le hg hs, (hcl 0).trans q0, (hcl 1).trans q1, (hcl 2).trans q2, (hcl 3).trans q3, (hcl 4).trans q4, (hcl 5).trans q5, (hcl 6).trans q6, ?_, ?_, hb', leaf_ok trivial (by simp [szL]), Nat.lt_of_lt_of_le hg hs⟩⟩
  · obtain ⟨a, z, e⟩ := ArgV.form ha
    exact ⟨a, z, e⟩
  · obtain ⟨a, z, e⟩ := VarV.form hv
    exact ⟨a, z, e⟩
theorem loaded_a (w : World) (hL : ∀ w1, Below w.heap.size w w1 → Calls Tryz.prog 33 #[.string (B [97, 46])] w1 fun e w' => LoadA w1 e w') :
    Calls Tryz.prog 16 #[.string (B [97, 46])] w fun e w' => LdA w e w' := by
  obtain ⟨w0, hw0⟩ : ∃ w0, w0 = w.alloc (.cells baseZero 26) := ⟨_, rfl⟩
  have hb0 : Below w.heap.size w w0 := by rw [hw0]; exact (Below.refl _ _).alloc (Nat.le_refl _) _
  have hx0 : w0.heap[w.heap.size]? = some (.cells baseZero 26 (0, 0)) := by rw [hw0]; exact heap_alloc_new _ _
  have hz : w.heap.size < w0.heap.size := (Array.getElem?_eq_some_iff.1 hx0).1
  have HL2 : Hid (Calls Tryz.prog 33 #[.string (B [97, 46])] (w.alloc (.cells baseZero 26)) fun e w' => LoadA (w.alloc (.cells baseZero 26)) e w') := by rw [← hw0]; exact hL w0 hb0
  obtain ⟨l, hl⟩ : ∃ l : List Cl, l = [⟨B [97], [], .mk 103 (B [116, 114, 117, 101]) [] [], []⟩] := ⟨_, rfl⟩
  have hl1 : l.length = 1 := by rw [hl]; rfl
  have HLN := hide hl1
  have HT2 : Hid (∀ w', Calls Tryz.prog 40 #[.string (B [97, 46])] w' fun e w'' => Below w'.heap.size w' w'' ∧ ∃ v cs, e = .returned (.tuple #[v, .int .i64 0, .int .i64 (-1)]) ∧ w''.ownsRow w'.heap.size 50 7 v l.length cs ∧ l.length ≤ 40 ∧ CRepL w'' (fun b => w'.heap.size ≤ b) l cs) := fun w' => (program_any (B [97, 46]) w' (by rw [B_size]; simp)).mono fun e w'' h => by
    unfold ProgPost at h; rw [prog_a, ← hl] at h; exact h
  have HEQ := hide hl
  have HB := hide hb0
  have HX := hide hx0
  have HW := hide hw0
  clear hL hb0 hx0 hw0 hl hl1
  go_enter Tryz.func16, Tryz.ntmps16
  go_upto_block 0 with (first | (go_at_call 33; refine HL2.out.mono ?_; rintro e w1 ⟨hB1, p, a, rfl, hP⟩) | (go_at_call 40; refine (HT2.out _).mono ?_; rintro e w2 ⟨hB2, v, cs, rfl, hown, h40, hrep⟩; obtain ⟨ao, cap, hv⟩ := row_form hown; subst hv))
  rw [← HW.out] at hB1
  have hB12 := below_next hB1 hB2
  have hx2 := (hB12.block _ hz).trans HX.out
  have hz2 : w.heap.size < w2.heap.size := Nat.lt_of_lt_of_le hz hB12.size
  have hz1 : w.heap.size < w1.heap.size := Nat.lt_of_lt_of_le hz hB1.size
  have HO := hide hown
  have HR := hide hrep
  have HP : Hid (BaseP w2 p) := hP.keep fun b cs q => hB2.block b (Array.getElem?_eq_some_iff.1 q).1
  clear hown hrep HL2 HT2 hP
  go_wp2_with fail
  go_loopg [11, 12] (l.length + 1) (fun g i _ wr => ∃ (c : Bool) (j : Nat), i = .int .i64 j ∧ j ≤ l.length ∧ l.length - j < g ∧ LdAt w wr w2 (.pointer (some ⟨p, 0, none⟩)) (.slice ao l.length cap) c)
  case atStart => exact ⟨false, 0, rfl, Nat.zero_le _, by omega, (Below.refl _ _).alloc (Nat.le_refl _) _, heap_alloc_new _ _⟩
  case round =>
    obtain ⟨c, j, rfl, hj, hgj, hA⟩ := hrel
    obtain ⟨c0, c1, c2, cf⟩ := box3b hA.box
    have hzb : w2.heap.size < wr.heap.size := (Array.getElem?_eq_some_iff.1 hA.box).1
    by_cases hjl : j < l.length
    · obtain ⟨g, y0, y1, y2, y3, y4, y5, y6, y7, y8, y9, y10, y11, y12, y13, y14, hao, hc1, hc2, hg, q0, q1, q2, q3, q4, q5, q6, hC⟩ := clause_elem (own_bl HO.out hA.below) (HR.out.frame (fun b hb hlt => ⟨hA.below.block b hlt, trivial⟩) : CRepL wr (fun _ => True) l cs) rfl hjl
      subst hao
      have HC : Hid (Calls Tryz.prog 41 #[.agg #[.string y0, .slice y1 y2 y3, .int .u8 y4, .string y5, .slice y6 y7 y8, .slice y9 y10 y11, .slice y12 y13 y14]] wr fun e w' => WPostI wr e w') := sizeC_any _ _ _ _ _ _ _ _ _ _ _ _ _ _ _ _ wr hC
      clear hC
      go_upto_region 10 with (go_at_call 41; refine HC.out.mono ?_; rintro e w4 ⟨⟨m, rfl⟩, hb4⟩)
      have hbx : w4.heap[w2.heap.size]? = some (.cells #[.pointer (some ⟨p, 0, none⟩), .slice (some ⟨g, 0, none⟩) l.length cap, .bool c] 26 (0, 0)) := (hb4.block _ hzb).trans hA.box
      obtain ⟨c0, c1, c2, cf⟩ := box3b hbx
      have hzb4 : w2.heap.size < w4.heap.size := Nat.lt_of_lt_of_le hzb hb4.size
      have hA4 : ∀ c', LdAt w (w4.setCell ⟨w2.heap.size, 2, none⟩ (.bool c')) w2 (.pointer (some ⟨p, 0, none⟩)) (.slice (some ⟨g, 0, none⟩) l.length cap) c' := fun c' =>
        ⟨Below.setCell (below_next hA.below hb4) (Nat.le_refl w2.heap.size) _, heap_setCell_same hbx⟩
      clear HC
      go_wp2_with fail
      all_goals
        go_roundg (l.length - j)
        case measure => exact hgj
        case rel => exact ⟨_, j + 1, rfl, hjl, by omega, hA4 _⟩
    · have hx3 := (hA.below.block _ hz2).trans hx2
      obtain ⟨d0, d1, d2, df⟩ := box3b hx3
      have hz3 : w.heap.size < wr.heap.size := Nat.lt_of_lt_of_le hz2 hA.below.size
      have HF : Hid (∀ x0 x1 x2, LdA w (.returned (.tuple #[.agg #[.pointer (some ⟨p, 0, none⟩), .slice ao l.length cap, .bool c], .bool true])) (((wr.setCell ⟨w.heap.size, 0, none⟩ x0).setCell ⟨w.heap.size, 1, none⟩ x1).setCell ⟨w.heap.size, 2, none⟩ x2)) := fun x0 x1 x2 => by
        have hne : ∀ b, b ≠ w.heap.size → (((wr.setCell ⟨w.heap.size, 0, none⟩ x0).setCell ⟨w.heap.size, 1, none⟩ x1).setCell ⟨w.heap.size, 2, none⟩ x2).heap[b]? = wr.heap[b]? := fun b q => by
          rw [Below.heap_setCell _ _ _ _ q, Below.heap_setCell _ _ _ _ q, Below.heap_setCell _ _ _ _ q]
        have hBW := below_set3 (below_next HB.out (below_next hB12 hA.below)) (Nat.le_refl w.heap.size) x0 x1 x2
        have hszW : w2.heap.size ≤ (((wr.setCell ⟨w.heap.size, 0, none⟩ x0).setCell ⟨w.heap.size, 1, none⟩ x1).setCell ⟨w.heap.size, 2, none⟩ x2).heap.size := by simp [World.setCell]; exact hA.below.size
        generalize (((wr.setCell ⟨w.heap.size, 0, none⟩ x0).setCell ⟨w.heap.size, 1, none⟩ x1).setCell ⟨w.heap.size, 2, none⟩ x2) = W at *
        have ho1 := HO.out
        rw [HLN.out] at ho1 ⊢
        refine ⟨hBW, p, ao, cap, c, rfl, HP.out.keep fun b cs q => ?_, baseIs_of HEQ.out ho1 HR.out (fun b q1 q2 => ?_) hszW⟩
        · have hb := (Array.getElem?_eq_some_iff.1 q).1
          rw [hne b (fun e => ?_), hA.below.block b hb]
          rw [e, hx2] at q
          injection q with q
          injection q with _ q
          exact absurd q (by decide)
        · rw [hne b (by omega), hA.below.block b q2]
      go_wp2_with fail
      exact bodyPost_ret (v := .tuple #[.agg #[.pointer (some ⟨p, 0, none⟩), .slice ao l.length cap, .bool c], .bool true]) (by simp [results, Tryz.results16, go_sem, d0, d1, d2]) rfl (HF.out _ _ _)
def AskPost (s : ByteArray) (w : World) (e : Ending) (w' : World) : Prop :=
  Below w.heap.size w w' ∧
  match questS s with
  | .error (er, a) => e = .returned (.tuple #[.pointer none, .int .i64 er, .int .i64 a])
  | .ok _ => ∃ (p : Addr) (a : Int), e = .returned (.tuple #[.pointer (some p), .int .i64 0, .int .i64 a])
def AskedP (w : World) (e : Ending) (w' : World) : Prop := Below w.heap.size w w' ∧ ∃ q, e = .returned (.tuple #[.pointer q, .bool true])
theorem BaseIs.mono {w : World} {H0 H1 g cap : Nat} {v av k m ba bq vv : Value} {c : Cl} (h : BaseIs w H0 v g cap av k m ba bq vv c) (hH : H0 ≤ H1) : BaseIs w H1 v g cap av k m ba bq vv c :=
  ⟨h.eq, h.lt, h.c0, h.c1, h.c2, h.c3, h.c4, h.c5, h.c6, h.a0, h.v0, h.body.frame (fun _ q _ => ⟨rfl, Nat.lt_of_lt_of_le q hH⟩), h.ok, Nat.lt_of_lt_of_le h.h0 hH⟩
theorem box5q {w : World} {b : Nat} {x0 x1 x2 x3 x4 : Value} {T : TypeId} (h : w.heap[b]? = some (.cells #[x0, x1, x2, x3, x4] T (0, 0))) :
    w.cell? ⟨b, 0, none⟩ = some x0 ∧ w.cell? ⟨b, 1, none⟩ = some x1 ∧ w.cell? ⟨b, 2, none⟩ = some x2 ∧ w.cell? ⟨b, 3, none⟩ = some x3 ∧ w.cell? ⟨b, 4, none⟩ = some x4 ∧ ∀ j, w.frozen? ⟨b, j, none⟩ = false :=
  ⟨by rw [cell_of_block h]; rfl, by rw [cell_of_block h]; rfl, by rw [cell_of_block h]; rfl, by rw [cell_of_block h]; rfl, by rw [cell_of_block h]; rfl, fun j => by simp [World.frozen?, h]⟩
theorem asked_z (s : ByteArray) (w : World) (hs : s.size ≤ 32768) (p : Nat) (ao : Option Addr) (cap : Nat) (hv : Bool) {g bc : Nat} {av k m ba bq vv : Value} {c : Cl} (hP : BaseP w p) (hA : BaseIs w w.heap.size (.slice ao 1 cap) g bc av k m ba bq vv c)
    (hK : ∀ w1, Below w.heap.size w w1 → BaseP w1 p → Calls Tryz.prog 26 #[.pointer (some ⟨p, 0, none⟩), .string s, .bool false] w1 fun e w' => AskPost s w1 e w') :
    Calls Tryz.prog 17 #[.agg #[.pointer (some ⟨p, 0, none⟩), .slice ao 1 cap, .bool hv], .string s, .bool false] w fun e w' => AskedP w e w' := by
  obtain ⟨w1, hw1⟩ : ∃ w1, w1 = w.alloc (.cells #[.pointer (some ⟨p, 0, none⟩), .slice ao 1 cap, .bool hv] 26) := ⟨_, rfl⟩
  have hB1 : Below w.heap.size w w1 := by rw [hw1]; exact (Below.refl _ _).alloc (Nat.le_refl _) _
  have hx1 : w1.heap[w.heap.size]? = some (.cells #[.pointer (some ⟨p, 0, none⟩), .slice ao 1 cap, .bool hv] 26 (0, 0)) := by rw [hw1]; exact heap_alloc_new _ _
  have hs1 : w.heap.size < w1.heap.size := (Array.getElem?_eq_some_iff.1 hx1).1
  obtain ⟨b0, b1, b2, bf⟩ := box3b hx1
  have HL : Hid (Calls Tryz.prog 26 #[.pointer (some ⟨p, 0, none⟩), .string s, .bool false] w1 fun e w' => AskPost s w1 e w') := hK w1 hB1 (hP.keep fun b cs q => hB1.block b (Array.getElem?_eq_some_iff.1 q).1)
  have HT := hide (fun w' => question_any s w' hs)
  have HB1 := hide hB1
  have HX1 := hide hx1
  have HA := hide hA
  clear hK hP hB1 hx1 hA bf
  cases ht : questS s with
  | error q =>
    obtain ⟨er, a⟩ := q
    have HL2 : Hid (Calls Tryz.prog 26 #[.pointer (some ⟨p, 0, none⟩), .string s, .bool false] w1 fun e w' => Below w1.heap.size w1 w' ∧ e = .returned (.tuple #[.pointer none, .int .i64 er, .int .i64 a])) := HL.out.mono fun e w' h => by
      unfold AskPost at h; rw [ht] at h; exact h
    have HT2 : Hid (∀ w', Calls Tryz.prog 24 #[.string s] w' fun e w'' => Below w'.heap.size w' w'' ∧ e = .returned (.tuple #[.agg #[.string ByteArray.empty, .slice none 0 0, .int .u8 0, .string ByteArray.empty, .slice none 0 0, .slice none 0 0, .slice none 0 0], .int .i64 er, .int .i64 a]) ∧ (er == 0) = false) := fun w' => (HT.out w').mono fun e w'' h => by
      unfold QuestPost at h; rw [ht] at h; exact ⟨h.1, h.2.1, by simpa using h.2.2⟩
    clear HL HT ht
    go_enter Tryz.func17, Tryz.ntmps17
    go_upto_region 1 with fail
    rw [← hw1]
    clear hw1
    go_wp2_with (first | (go_at_call 26; refine HL2.out.mono ?_; rintro e w2 ⟨hB2, rfl⟩) | (go_at_call 24; refine (HT2.out _).mono ?_; rintro e w3 ⟨hB3, rfl, hne'⟩))
    go_ret2
    exact ⟨(HB1.out.trans ((below_next hB2 hB3).mono (by omega))).alloc (by have := hB2.size; have := hB3.size; omega) _, _, rfl⟩
  | ok r =>
    obtain ⟨b, vars⟩ := r
    obtain ⟨hbo, hnm⟩ := quest_b ht
    have HL2 : Hid (Calls Tryz.prog 26 #[.pointer (some ⟨p, 0, none⟩), .string s, .bool false] w1 fun e w' => Below w1.heap.size w1 w' ∧ ∃ (p : Addr) (a : Int), e = .returned (.tuple #[.pointer (some p), .int .i64 0, .int .i64 a])) := HL.out.mono fun e w' h => by
      unfold AskPost at h; rw [ht] at h; exact h
    have HT2 : Hid (∀ w', Calls Tryz.prog 24 #[.string s] w' fun e w'' => Below w'.heap.size w' w'' ∧ ∃ k m b0 b1 b2 p0 p1 p2 v0 v1 v2, e = .returned (.tuple #[.agg #[.string ByteArray.empty, .slice none 0 0, .int .u8 k, .string m, .slice b0 b1 b2, .slice p0 p1 p2, .slice v0 v1 v2], .int .i64 0, .int .i64 (-1)]) ∧
      BRep w'' (fun x => w'.heap.size ≤ x) b [.int .u8 k, .string m, .slice b0 b1 b2, .slice p0 p1 p2] ∧ VarV w'' (fun x => w'.heap.size ≤ x) vars (.slice v0 v1 v2) ∧ vars.length ≤ 12) := fun w' => (HT.out w').mono fun e w'' h => by
      unfold QuestPost at h; rw [ht] at h; exact h
    have HBO := hide hbo
    have HNM := hide hnm
    clear HL HT ht hbo hnm
    go_enter Tryz.func17, Tryz.ntmps17
    go_upto_region 1 with fail
    rw [← hw1]
    clear hw1
    go_upto_region 3 with (first | (go_at_call 26; refine HL2.out.mono ?_; rintro e w2 ⟨hB2, px, pa, rfl⟩) | (go_at_call 24; refine (HT2.out _).mono ?_; rintro e w3 ⟨hB3, k', m', b0', b1', b2', p0', p1', p2', v0', v1', v2', rfl, hBR, hVV, hv12⟩))
    obtain ⟨w4, hw4⟩ : ∃ w4, w4 = w3.alloc (.cells #[.string ByteArray.empty, .slice none 0 0, .int .u8 k', .string m', .slice b0' b1' b2', .slice p0' p1' p2', .slice v0' v1' v2'] 50) := ⟨_, rfl⟩
    have hB4 : Below w3.heap.size w3 w4 := by rw [hw4]; exact (Below.refl _ _).alloc (Nat.le_refl _) _
    have hx4 : w4.heap[w3.heap.size]? = some (.cells #[.string ByteArray.empty, .slice none 0 0, .int .u8 k', .string m', .slice b0' b1' b2', .slice p0' p1' p2', .slice v0' v1' v2'] 50 (0, 0)) := by rw [hw4]; exact heap_alloc_new _ _
    rw [← hw4]
    clear hw4
    have hz2 := hB2.size
    have hz3 := hB3.size
    have hz4 : w3.heap.size < w4.heap.size := (Array.getElem?_eq_some_iff.1 hx4).1
    obtain ⟨c0, c1, c2, c3, c4, c5, c6, cf⟩ := box7 hx4
    have hB14 : Below w1.heap.size w1 w4 := hB2.trans ((hB3.mono hz2).trans (hB4.mono (by omega)))
    have HSZ : Hid (Calls Tryz.prog 41 #[.agg #[.string ByteArray.empty, .slice none 0 0, .int .u8 k', .string m', .slice b0' b1' b2', .slice p0' p1' p2', .slice v0' v1' v2']] w4 fun e w' => WPostI w4 e w') := sizeC_any ⟨ByteArray.empty, [], b, vars⟩ _ _ _ _ _ _ _ _ _ _ _ _ _ _ _ w4 ⟨_, _, _, _, _, _, rfl, .inl ⟨rfl, rfl⟩, hBR.frame (fun x _ q => ⟨hB4.block x q, trivial⟩), hVV.frame (fun x _ q => ⟨hB4.block x q, trivial⟩)⟩
    have HBR := hide hBR
    have HVV := hide hVV
    have HB4 := hide hB4
    have HX4 := hide hx4
    have HB14 := hide hB14
    clear hBR hVV hB4 hx4 hB14 hB2 hB3 cf
    go_upto_region 6 with (go_at_call 41; refine HSZ.out.mono ?_; rintro e w5 ⟨⟨n5, rfl⟩, hB5⟩)
    have hz5 := hB5.size
    have hx5 := (hB5.block w3.heap.size hz4).trans HX4.out
    obtain ⟨d0, d1, d2, d3, d4, d5, d6, df⟩ := box7 hx5
    have hB15 : Below w1.heap.size w1 w5 := HB14.out.trans (hB5.mono (by omega))
    have hbx5 := (hB15.block w.heap.size hs1).trans HX1.out
    obtain ⟨f0, f1, f2, ff⟩ := box3b hbx5
    have hBw5 : Below w.heap.size w w5 := HB1.out.trans (hB15.mono (by omega))
    have HAS := hide (ask_z w5 20000 ao 1 cap b vars k' m' b0' p0' v0' b1' b2' p1' p2' v1' v2' (HBR.out.frame (fun x _ q => ⟨(hB5.block x (by omega)).trans (HB4.out.block x q), by omega⟩)) (HVV.out.frame (fun x _ q => ⟨(hB5.block x (by omega)).trans (HB4.out.block x q), by omega⟩)) hv12 HBO.out)
    have HVV5 : Hid (VarV w5 (fun x => x < w5.heap.size) vars (.slice v0' v1' v2')) := HVV.out.frame (fun x _ q => ⟨(hB5.block x (by omega)).trans (HB4.out.block x q), by omega⟩)
    have HA5 : Hid (BaseIs w5 w5.heap.size (.slice ao 1 cap) g bc av k m ba bq vv c) := (HA.out.keep (Nat.le_refl _) hBw5).mono hBw5.size
    have HBw5 := hide hBw5
    clear hB5 hx5 hB15 hbx5 hBw5 c0 c1 c2 c3 c4 c5 c6 df ff b0 b1 b2
    go_upto_region 11 with (go_at_call 27; refine HAS.out.mono ?_; rintro e w6 ⟨wk, hb, V, avs, lv, kv, fx, s6, g0, rfl, h6, b6, C6, G6, k6, fa, fc, fxx, fxs, hg0, hvv6, hvl6⟩)
    obtain ⟨w7, hw7⟩ : ∃ w7, w7 = w6.alloc (.cells #[.pointer (some px), .slice none 0 0, .int .i64 0, .int .i64 0, .bool false] 80) := ⟨_, rfl⟩
    have hB7 : Below w6.heap.size w6 w7 := by rw [hw7]; exact (Below.refl _ _).alloc (Nat.le_refl _) _
    have hx7 : w7.heap[w6.heap.size]? = some (.cells #[.pointer (some px), .slice none 0 0, .int .i64 0, .int .i64 0, .bool false] 80 (0, 0)) := by rw [hw7]; exact heap_alloc_new _ _
    have h7 := (h6.below hB7).keepQ hx7
    have hB57 : Below w5.heap.size w5 w7 := b6.trans (hB7.mono b6.size)
    have HAN := hide (answers_z h7 (by show BaseIs w7 w5.heap.size fx.a g bc av k m ba bq vv c; rw [fa]; exact HA5.out.keep (Nat.le_refl _) hB57) C6 G6 (by omega) (by omega) (by rw [k6]; omega) fxx fxs (nms := vars) (by show VarV w7 _ vars fx.c; rw [fc]; exact HVV5.out.frame (fun x q _ => ⟨hB57.block x q, q⟩)) HNM.out (by omega) hg0 hvv6 hvl6 20 (by omega))
    have hz6 := b6.size
    have HB57 := hide hB57
    clear h6 b6 C6 G6 k6 fa fc fxx fxs hg0 hvv6 hvl6 hB7 hx7 h7 hB57
    go_upto_region 12 with fail
    rw [← hw7]
    clear hw7
    go_upto_region 13 with (go_at_call 28; refine HAN.out.mono ?_; rintro e w8 ⟨ro, rn, rc, rer, rb, rfl, hB8, hq8⟩)
    have hx8 : w8.heap[w6.heap.size]? = some (.cells #[.pointer (some px), .slice none 0 0, .int .i64 0, .int .i64 0, .bool false] 80 (0, 0)) := hq8 _ rfl
    obtain ⟨e0, e1, e2, e3, e4, ef⟩ := box5q hx8
    have hl8 : w6.heap.size < w8.heap.size := (Array.getElem?_eq_some_iff.1 hx8).1
    have HB8 : Hid (Below w.heap.size w w8) := HBw5.out.trans ((HB57.out.trans hB8).mono HBw5.out.size)
    have ef1 := ef 1
    have ef3 := ef 3
    have ef4 := ef 4
    clear hB8 hq8
    have hwz : w.heap.size ≤ w6.heap.size := Nat.le_trans HBw5.out.size hz6
    go_wp2_with fail
    all_goals
      go_ret2
      exact ⟨((HB8.out.setCell (p := ⟨w6.heap.size, 1, none⟩) hwz _).setCell (p := ⟨w6.heap.size, 3, none⟩) hwz _).setCell (p := ⟨w6.heap.size, 4, none⟩) hwz _, _, rfl⟩
theorem asks_any (s : ByteArray) (w : World) (hs : s.size ≤ 9223372036854775807) (hL : ∀ w1, Below w.heap.size w w1 → Calls Tryz.prog 33 #[.string (B [97, 46])] w1 fun e w' => LoadA w1 e w')
    (hK : s.size ≤ 32768 → ∀ w1 p, Below w.heap.size w w1 → BaseP w1 p → Calls Tryz.prog 26 #[.pointer (some ⟨p, 0, none⟩), .string s, .bool false] w1 fun e w' => AskPost s w1 e w') :
    Calls Tryz.prog 5 #[.string s] w fun e w' => Below w.heap.size w w' ∧ e = .returned (.bool true) := by
  by_cases h : s.size ≤ 32768
  · have HR := hide (loaded_a w hL)
    have HK := hide (hK h)
    clear hL hK
    go_enter Tryz.func5, Tryz.ntmps5
    go_wp2_with (first | (go_at_call 16; refine HR.out.mono ?_; rintro e w1 ⟨hB1, p, ao, cap, hv, rfl, hP, g, bc, av, k, m, ba, bq, vv, c, hA⟩))
    have hB2 : Below w1.heap.size w1 (w1.alloc (.cells #[.pointer (some ⟨p, 0, none⟩), .slice ao 1 cap, .bool hv] 26)) := (Below.refl _ _).alloc (Nat.le_refl _) _
    generalize w1.alloc (.cells #[.pointer (some ⟨p, 0, none⟩), .slice ao 1 cap, .bool hv] 26) = w2 at *
    have hP2 : BaseP w2 p := hP.keep fun b cs q => hB2.block b (Array.getElem?_eq_some_iff.1 q).1
    have hA2 := (hA.keep (Nat.le_refl _) hB2).mono hB2.size
    have hBw : Below w.heap.size w w2 := hB1.trans (hB2.mono hB1.size)
    have HAK := hide (asked_z s w2 h p ao cap hv hP2 hA2 (fun w3 q1 q2 => HK.out w3 p (hBw.trans (q1.mono hBw.size)) q2))
    have HBW := hide hBw
    clear hP hA hP2 hA2 hB1 hB2 hBw
    refine HAK.out.mono ?_
    rintro e w3 ⟨hB3, q, rfl⟩
    go_wp2_with fail
    go_ret
    exact ⟨HBW.out.trans (hB3.mono HBW.out.size), rfl⟩
  · clear hL hK
    go_enter Tryz.func5, Tryz.ntmps5
    go_wp2_with fail
    go_ret
    exact ⟨Below.refl _ _, rfl⟩
end Go.Proofs.YtodpkdajbnceoaaGreatDoor
