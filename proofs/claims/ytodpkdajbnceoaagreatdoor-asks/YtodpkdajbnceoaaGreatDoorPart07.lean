import Derived.Test.YtodpkdajbnceoaaGreatDoorPart06
set_option linter.all false
set_option maxHeartbeats 1000000
set_option maxRecDepth 100000
namespace Go.Proofs.YtodpkdajbnceoaaGreatDoor
open Go.RowKit
mutual
def short : Ex → Prop
  | .atom n => n.size ≤ 2000
  | .num v => -9223372036854775808 < v ∧ v < 9223372036854775808
  | .var _ => True
  | .cmp n args => n.size ≤ 2000 ∧ shortL args
def shortL : List Ex → Prop
  | [] => True
  | x :: l => short x ∧ shortL l
end
theorem decS_len (v : Int) (h1 : -9223372036854775808 < v) (h2 : v < 9223372036854775808) : (decS v).length ≤ 20 := by
  unfold decS
  have := decN_len 19 v.natAbs (by omega)
  split <;> simp <;> omega
theorem pow_eq (n : ByteArray) (m : Nat) : powS n m = if m ≠ 2 then 0 else if (n.toList == [43]) = true ∨ (n.toList == [45]) = true then 1 else if (n.toList == [42]) = true ∨ (n.toList == [47, 47]) = true ∨ (n.toList == [109, 111, 100]) = true then 2 else 0 := by
  unfold powS
  simp only [← B_beq, decide_eq_true_eq]
structure WFr (wb hb : Nat) (sv sv' : Value) (w w' : World) : Prop where
  os : w'.os = w.os
  tape : w'.tape = w.tape
  output : w'.output = w.output
  size : w.heap.size ≤ w'.heap.size
  block : ∀ b, b < w.heap.size → b ≠ hb → b ≠ wb → sv.ownBlock ≠ some b → w'.heap[b]? = w.heap[b]?
  snew : ∀ b, sv'.ownBlock = some b → sv.ownBlock = some b ∨ w.heap.size ≤ b
theorem WFr.refl (wb hb : Nat) (sv : Value) (w : World) : WFr wb hb sv sv w w := ⟨rfl, rfl, rfl, Nat.le_refl _, fun _ _ _ _ _ => rfl, fun _ h => .inl h⟩
theorem WFr.trans {wb hb : Nat} {s0 s1 s2 : Value} {a b c : World} (h : WFr wb hb s0 s1 a b) (k : WFr wb hb s1 s2 b c) : WFr wb hb s0 s2 a c := by
  refine ⟨k.os.trans h.os, k.tape.trans h.tape, k.output.trans h.output, Nat.le_trans h.size k.size, fun x hx h1 h2 h3 => ?_, fun x hx => ?_⟩
  · rw [k.block x (Nat.lt_of_lt_of_le hx h.size) h1 h2 (fun e => (h.snew x e).elim h3 (fun q => by omega))]
    exact h.block x hx h1 h2 h3
  · rcases k.snew x hx with e | e
    · exact h.snew x e
    · exact .inr (Nat.le_trans h.size e)
theorem WFr.of_below {wb hb : Nat} {sv : Value} {w w' : World} (h : Below w.heap.size w w') : WFr wb hb sv sv w w' := ⟨h.os, h.tape, h.output, h.size, fun b hb _ _ _ => h.block b hb, fun _ e => .inl e⟩
theorem B_data (n : ByteArray) : B n.data.toList = n := by cases n; simp [B]
theorem szL_snoc : ∀ (l : List Ex) (x : Ex), szL (l ++ [x]) = szL l + szE x
  | [], x => by simp [szL]
  | y :: l, x => by have := szL_snoc l x; simp [szL, this]; omega
def V0 : _root_.Fin 6 → Value := fun _ => .slice none 0 0
theorem tab_new (w : World) (most : Int) : Tab (w.alloc (.cells (heapCells V0 0 most 0) 119)) w.heap.size V0 [] [] [] [] 0 most 0 := by
  refine ⟨⟨heap_alloc_new _ _, fun i => ?_, fun i j _ => .inl rfl, fun i => by simp [V0, Value.ownBlock]⟩, rfl, rfl, fun i h => absurd h (by simp)⟩
  have e : tabC [] [] [] [] i = [] := by
    match i with
    | 0 | 1 | 2 | 3 | 4 | 5 => rfl
  rw [e]
  exact World.ownsRow_nil _ _ _ _
theorem new_any (w : World) (most : Int) :
    Calls Tryz.prog 56 #[.int .i64 most] w fun e w' => e = .returned (.pointer (some ⟨w.heap.size, 0, none⟩)) ∧ Below w.heap.size w w' ∧ Tab w' w.heap.size V0 [] [] [] [] 0 most 0 := by
  go_enter Tryz.func56, Tryz.ntmps56
  go_wp2_with fail
  go_ret
  exact ⟨rfl, (Below.refl _ _).alloc (Nat.le_refl _) _, tab_new w most⟩
mutual
theorem varsIn_mono {n m : Nat} (h : n ≤ m) : ∀ {x : Ex}, varsIn n x → varsIn m x
  | .atom _, _ => trivial
  | .num _, _ => trivial
  | .var k, q => Nat.lt_of_lt_of_le (show k < n from q) h
  | .cmp _ args, q => varsInL_mono h (l := args) q
theorem varsInL_mono {n m : Nat} (h : n ≤ m) : ∀ {l : List Ex}, varsInL n l → varsInL m l
  | [], _ => trivial
  | _ :: _, q => ⟨varsIn_mono h q.1, varsInL_mono h q.2⟩
end
theorem shortL_snoc : ∀ {l : List Ex} {x : Ex}, shortL l → short x → shortL (l ++ [x])
  | [], _, _, h => ⟨h, trivial⟩
  | _ :: _, _, h, q => ⟨h.1, shortL_snoc h.2 q⟩
theorem varsInL_snoc {n : Nat} : ∀ {l : List Ex} {x : Ex}, varsInL n l → varsIn n x → varsInL n (l ++ [x])
  | [], _, _, h => ⟨h, trivial⟩
  | _ :: _, _, h, q => ⟨h.1, varsInL_snoc h.2 q⟩
theorem tk_lt {toks : List Tok} {i : Nat} (h : (tk toks i).k ≠ 101) : i < toks.length := by
  by_cases q : i < toks.length
  · exact q
  · refine absurd ?_ h
    unfold tk
    rw [List.getD_eq_getElem?_getD, List.getElem?_eq_none (by omega)]
    rfl
theorem isT_lt {toks : List Tok} {i : Nat} {s : List UInt8} (h : isT (tk toks i) s = true) : i < toks.length := tk_lt (by
  intro e
  unfold isT at h
  rw [e] at h
  simp at h)
def VOk (toks : List Tok) : Prop := ∀ i, (tk toks i).k = 118 → 1 ≤ (tk toks i).t.size
def Ext (toks : List Tok) (a b : List ByteArray) : Prop := ∃ m, b = a ++ m ∧ (VOk toks → ∀ x ∈ m, 1 ≤ x.size ∧ x.size ≤ 2000)
structure Got (toks : List Tok) (st st' : St) (x : Ex) : Prop where
  size : st.1 + szE x ≤ st'.1
  le : st'.1 ≤ toks.length
  short : short x
  ext : Ext toks st.2 st'.2
  vars : varsIn st'.2.length x
structure GotL (toks : List Tok) (st st' : St) (l : List Ex) (k : Nat) : Prop where
  size : st.1 + szL l + l.length ≤ st'.1 + k
  le : st'.1 ≤ toks.length
  short : shortL l
  ext : Ext toks st.2 st'.2
  vars : varsInL st'.2.length l
def PartOk (toks : List Tok) (part : St → R Ex) : Prop := ∀ st x st', part st = .ok (x, st') → Got toks st st' x
theorem ext_trans {toks : List Tok} {a b c : List ByteArray} (h : Ext toks a b) (q : Ext toks b c) : Ext toks a c := by
  obtain ⟨m, rfl, h1⟩ := h
  obtain ⟨n, rfl, h2⟩ := q
  exact ⟨m ++ n, by simp, fun v x hx => (List.mem_append.1 hx).elim (h1 v x) (h2 v x)⟩
theorem ext_le {toks : List Tok} {a b : List ByteArray} (h : Ext toks a b) : a.length ≤ b.length := by
  obtain ⟨m, rfl, _⟩ := h
  simp
theorem ops_got {toks : List Tok} {part : St → R Ex} {isOp : Tok → Bool} (hp : PartOk toks part) (ho : ∀ i, isOp (tk toks i) = true → i < toks.length) (hn : ∀ i, (tk toks i).t.size ≤ 2000) :
    ∀ (f : Nat) (x : Ex) (st0 st : St) (y : Ex) (st' : St), Got toks st0 st x → opsLoop toks part isOp f x st = .ok (y, st') → Got toks st0 st' y
  | 0, x, st0, st, y, st', h, e => by
    rw [opsLoop] at e; cases e; exact h
  | f + 1, x, st0, st, y, st', h, e => by
    rw [opsLoop] at e
    split at e
    · rename_i hop
      split at e
      · cases e
      · rename_i z st1 hz
        have h1 := hp _ _ _ hz
        refine ops_got hp ho hn f (.cmp (tk toks st.1).t [x, z]) st0 st1 y st' ⟨?_, h1.le, ⟨hn _, h.short, h1.short, trivial⟩, ext_trans h.ext h1.ext, ⟨varsIn_mono (ext_le h1.ext) h.vars, h1.vars, trivial⟩⟩ e
        have a := h.size
        have b := h1.size
        simp only [szE, szL]
        simp only at b
        omega
    · cases e; exact h
theorem product_got {toks : List Tok} {prim : St → R Ex} (hp : PartOk toks prim) (hn : ∀ i, (tk toks i).t.size ≤ 2000) : PartOk toks (productOf toks prim) := by
  intro st x st' e
  unfold productOf at e
  split at e
  · cases e
  · rename_i y st1 hy
    refine ops_got hp (fun i h => tk_lt fun q => ?_) hn _ _ _ _ _ _ (hp _ _ _ hy) e
    unfold isMul at h; rw [q] at h; simp at h
theorem expr_got {toks : List Tok} {prim : St → R Ex} (hp : PartOk toks prim) (hn : ∀ i, (tk toks i).t.size ≤ 2000) : PartOk toks (exprOf toks prim) := by
  intro st x st' e
  unfold exprOf at e
  split at e
  · cases e
  · rename_i y st1 hy
    refine ops_got (product_got hp hn) (fun i h => tk_lt fun q => ?_) hn _ _ _ _ _ _ (product_got hp hn _ _ _ hy) e
    unfold isAdd at h; rw [q] at h; simp at h
theorem row_got {toks : List Tok} {ex : St → R Ex} (hp : PartOk toks ex) :
    ∀ (f : Nat) (acc : List Ex) (st0 st : St) (l : List Ex) (st' : St), GotL toks st0 st acc 0 → rowOf toks ex f acc st = .ok (l, st') → GotL toks st0 st' l 1
  | 0, acc, st0, st, l, st', h, e => by
    rw [rowOf] at e; cases e; exact ⟨by have := h.size; omega, h.le, h.short, h.ext, h.vars⟩
  | f + 1, acc, st0, st, l, st', h, e => by
    rw [rowOf] at e
    split at e
    · cases e
    · rename_i x st1 hx
      have h1 := hp _ _ _ hx
      have a := h.size
      have b := h1.size
      have hs := shortL_snoc h.short h1.short
      have hv := varsInL_snoc (varsInL_mono (ext_le h1.ext) h.vars) h1.vars
      have hsz := szL_snoc acc x
      split at e
      · rename_i hc
        have hl := isT_lt hc
        exact row_got hp f (acc ++ [x]) st0 (st1.1 + 1, st1.2) l st' ⟨by rw [hsz, List.length_append]; show st0.1 + (szL acc + szE x) + (acc.length + 1) ≤ st1.1 + 1 + 0; omega, hl, hs, ext_trans h.ext h1.ext, hv⟩ e
      · cases e
        exact ⟨by simp only [List.length_append, List.length_cons, List.length_nil, hsz]; omega, h1.le, hs, ext_trans h.ext h1.ext, hv⟩
theorem must_ok {α : Type} {toks : List Tok} {s : List UInt8} {x y : α} {st st' : St} (h : mustT toks s x st = .ok (y, st')) : y = x ∧ st' = (st.1 + 1, st.2) ∧ st.1 < toks.length := by
  unfold mustT at h
  split at h
  · rename_i q; cases h; exact ⟨rfl, rfl, isT_lt q⟩
  · cases h
theorem fold_facts (n : Nat) (r : Ex) (hr : short r) (hv : varsIn n r) : ∀ (l : List Ex), shortL l → varsInL n l → szE (l.foldr cellEx r) = szL l + l.length + szE r ∧ short (l.foldr cellEx r) ∧ varsIn n (l.foldr cellEx r)
  | [], _, _ => ⟨by simp [szL], hr, hv⟩
  | x :: l, h, q => by
    obtain ⟨h1, h2, h3⟩ := fold_facts n r hr hv l h.2 q.2
    refine ⟨?_, ⟨by rw [B_size]; decide, h.1, h2, trivial⟩, ⟨q.1, h3, trivial⟩⟩
    simp only [List.foldr_cons, cellEx, szE, szL, List.length_cons] at h1 ⊢
    omega
theorem list_got {toks : List Tok} {ex : St → R Ex} (hp : PartOk toks ex) (st : St) (hst : st.1 ≤ toks.length) (x : Ex) (st' : St) (e : listOf toks ex st = .ok (x, st')) :
    st.1 + szE x ≤ st'.1 + 1 ∧ st'.1 ≤ toks.length ∧ short x ∧ Ext toks st.2 st'.2 ∧ varsIn st'.2.length x := by
  have hnil : short nilEx := by show (B [91, 93]).size ≤ 2000; rw [B_size]; decide
  unfold listOf at e
  split at e
  · rename_i h
    have := isT_lt h
    cases e
    exact ⟨by simp [nilEx, szE], this, hnil, ⟨[], by simp⟩, trivial⟩
  · split at e
    · cases e
    · rename_i l st1 hl
      have h1 := row_got hp _ [] st st _ _ ⟨by simp [szL], hst, trivial, ⟨[], by simp⟩, trivial⟩ hl
      have a := h1.size
      split at e
      · rename_i hb
        split at e
        · cases e
        · rename_i r st2 hr
          have h2 := hp _ _ _ hr
          have b := h2.size
          obtain ⟨rfl, rfl, h3⟩ := must_ok e
          obtain ⟨q1, q2, q3⟩ := fold_facts st2.2.length r h2.short h2.vars l h1.short (varsInL_mono (ext_le h2.ext) h1.vars)
          exact ⟨by rw [q1]; simp only at b ⊢; omega, h3, q2, ext_trans h1.ext h2.ext, q3⟩
      · obtain ⟨rfl, rfl, h3⟩ := must_ok e
        obtain ⟨q1, q2, q3⟩ := fold_facts st1.2.length nilEx hnil trivial l h1.short h1.vars
        exact ⟨by rw [q1]; simp only [nilEx, szE]; omega, h3, q2, h1.ext, q3⟩
theorem num_short {t : Tok} (h : t.t.size ≤ 9 ∧ AllDig t.t.data.toList) : short (.num (digVal t.t.data.toList)) ∧ short (.num (-digVal t.t.data.toList)) := by
  have hb := digVal_bound t.t.data.toList h.2
  have hl : t.t.data.toList.length ≤ 9 := by rw [Array.length_toList]; exact h.1
  have hp : (10 : Int) ^ t.t.data.toList.length ≤ 10 ^ 9 := by
    have := Nat.pow_le_pow_right (n := 10) (by omega) hl
    exact_mod_cast this
  have h9 : (10 : Int) ^ 9 = 1000000000 := by decide
  exact ⟨⟨by omega, by omega⟩, ⟨by omega, by omega⟩⟩
theorem bare_got {toks : List Tok} {ex : St → R Ex} (hg : GoodToks toks) (hn : ∀ i, (tk toks i).t.size ≤ 2000) (hp : PartOk toks ex) : PartOk toks (bareOf toks ex) := by
  intro st x st' e
  unfold bareOf at e
  simp only at e
  split at e
  · rename_i hk
    have := tk_lt (toks := toks) (i := st.1) (by rw [hk]; decide)
    cases e
    exact ⟨by simp [szE], this, (num_short (hg.num _ hk)).1, ⟨[], by simp⟩, trivial⟩
  · split at e
    · rename_i hk
      have hlt := tk_lt (toks := toks) (i := st.1) (by rw [hk]; decide)
      unfold varOf at e
      split at e
      · rename_i k hf
        cases e
        refine ⟨by simp [szE], hlt, trivial, ⟨[], by simp⟩, ?_⟩
        unfold findVar at hf
        split at hf
        · cases hf
        · exact (List.findIdx?_eq_some_iff_getElem.1 hf).1
      · split at e
        · cases e
        · cases e
          exact ⟨by simp [szE], hlt, trivial, ⟨_, rfl, fun v y hy => by rw [List.mem_singleton.1 hy]; exact ⟨v _ hk, hn _⟩⟩, by show st.2.length < _; simp⟩
    · split at e
      · rename_i hk
        have hlt := tk_lt (toks := toks) (i := st.1) (by rw [hk]; decide)
        split at e
        · rename_i hop
          have hlt2 := isT_lt hop
          split at e
          · cases e
          · rename_i l st1 hl
            obtain ⟨rfl, rfl, h3⟩ := must_ok e
            unfold argsOf at hl
            split at hl
            · cases hl
            · rename_i l2 st2 hl2
              split at hl
              · cases hl
              · cases hl
                have h1 := row_got hp _ [] (st.1 + 2, st.2) (st.1 + 2, st.2) _ _ ⟨by simp [szL], hlt2, trivial, ⟨[], by simp⟩, trivial⟩ hl2
                have a := h1.size
                refine ⟨?_, h3, ⟨hn _, h1.short⟩, h1.ext, h1.vars⟩
                simp only [szE]
                simp only at a
                omega
        · cases e
          exact ⟨by simp [szE], hlt, hn _, ⟨[], by simp⟩, trivial⟩
      · split at e
        · split at e
          · rename_i hk
            have hlt := tk_lt (toks := toks) (i := st.1 + 1) (by rw [hk]; decide)
            cases e
            exact ⟨by simp [szE], hlt, (num_short (hg.num _ hk)).2, ⟨[], by simp⟩, trivial⟩
          · cases e
        · split at e
          · split at e
            · cases e
            · rename_i y st1 hy
              obtain ⟨rfl, rfl, h3⟩ := must_ok e
              have h1 := hp _ _ _ hy
              have a := h1.size
              exact ⟨by simp only at a ⊢; omega, h3, h1.short, h1.ext, h1.vars⟩
          · split at e
            · rename_i hb
              have hlt := isT_lt hb
              obtain ⟨a, h2, h3, h4, h5⟩ := list_got hp (st.1 + 1, st.2) hlt x st' e
              exact ⟨by simp only at a; omega, h2, h3, h4, h5⟩
            · cases e
theorem prim_got {toks : List Tok} (hg : GoodToks toks) (hn : ∀ i, (tk toks i).t.size ≤ 2000) : ∀ k, PartOk toks (primS toks k)
  | 0 => fun st x st' e => by rw [primS] at e; cases e
  | k + 1 => fun st x st' e => by
    rw [primS] at e
    exact bare_got hg hn (expr_got (prim_got hg hn k) hn) st x st' e
theorem sign_size {s : ByteArray} {i : Nat} (hlt : i < s.size) : (B (signAt s i)).size ≤ s.size := by
  have := signAt_fits s i hlt
  omega
theorem lex_names {s : ByteArray} : ∀ (f i : Nat) (acc l : List Tok), lexGo s f i acc = .ok l → (∀ t ∈ acc, t.t.size ≤ s.size) → ∀ t ∈ l, t.t.size ≤ s.size
  | 0, i, acc, l, h, hg => by
    cases h; exact hg
  | f + 1, i, acc, l, h, hg => by
    rw [lexGo] at h
    split at h
    · rename_i hlt
      split at h
      · exact lex_names f (i + 1) acc l h hg
      · split at h
        · split at h
          · cases h
          · refine lex_names f _ _ l h (fun t ht => ?_)
            rcases List.mem_append.1 ht with ht | ht
            · exact hg t ht
            · have ht := List.mem_singleton.1 ht
              subst ht
              show (s.extract i (wordEnd s i)).size ≤ s.size
              rw [ByteArray.size_extract]
              omega
        · split at h
          · cases h
          · refine lex_names f _ _ l h (fun t ht => ?_)
            rcases List.mem_append.1 ht with ht | ht
            · exact hg t ht
            · have ht := List.mem_singleton.1 ht
              subst ht
              exact sign_size hlt
    · cases h; exact hg
end Go.Proofs.YtodpkdajbnceoaaGreatDoor
