import Derived.Test.YtodpkdajbnceoaaGreatDoorPart11
import Derived.Test.YtodpkdajbnceoaaGreatDoorPart06
set_option linter.unusedVariables false
set_option linter.unusedSimpArgs false
namespace Go.Proofs.YtodpkdajbnceoaaGreatDoor
open Go.RowKit

theorem own_zero {w : World} {base n sz : Nat} {T : TypeId} {v : Value} {xs : List Value} (h : w.ownsRow base T sz v n xs) : w.ownsRow 0 T sz v n xs := by
  refine ⟨h.1, ?_⟩
  rcases h.2 with q | ⟨g, cap, cur, h1, _, h2⟩
  · exact .inl q
  · exact .inr ⟨g, cap, cur, h1, Nat.zero_le _, h2⟩

theorem range_get {nv k t : Nat} (h : (List.range nv)[k]? = some t) : t = k := by
  obtain ⟨h1, h2⟩ := List.getElem?_eq_some_iff.1 h
  rw [List.getElem_range] at h2
  exact h2.symm

theorem replicate_vars (nv : Nat) : VarsIn (List.range nv) (List.replicate nv varNd) := fun k hk => by
  simp at hk
  simp [hk]

def V0 : _root_.Fin 6 → Value := fun _ => .slice none 0 0

theorem tab_new (w : World) (most : Int) : Tab (w.alloc (.cells (heapCells V0 0 most 0) 119)) w.heap.size V0 [] [] [] [] 0 most 0 := by
  refine ⟨⟨heap_alloc_new _ _, fun i => ?_, fun i j _ => .inl rfl, fun i => by simp [V0, Value.ownBlock]⟩, rfl, rfl, fun i h => absurd h (by simp)⟩
  have e : tabC [] [] [] [] i = [] := by
    match i with
    | 0 | 1 | 2 | 3 | 4 | 5 => rfl
  rw [e]
  exact World.ownsRow_nil _ _ _ _

set_option maxRecDepth 100000 in
set_option maxHeartbeats 1000000 in
theorem new_any (w : World) (most : Int) :
    Calls Tryz.prog 56 #[.int .i64 most] w fun e w' => e = .returned (.pointer (some ⟨w.heap.size, 0, none⟩)) ∧ Below w.heap.size w w' ∧ Tab w' w.heap.size V0 [] [] [] [] 0 most 0 := by
  go_enter Tryz.func56, Tryz.ntmps56
  go_wp2_with fail
  go_ret
  exact ⟨rfl, (Below.refl _ _).alloc (Nat.le_refl _) _, tab_new w most⟩

theorem win_new {w : World} {hb : Nat} {V : _root_.Fin 6 → Value} {T : List Nd} {avs : List Value} {cost most : Int} (h : TabN w hb V T avs cost most) :
    WIn (w.alloc (.cells #[.pointer (some ⟨hb, 0, none⟩), .slice none 0 0] 130)) w.heap.size hb V T avs cost most (.slice none 0 0) [] := by
  refine ⟨h.below ((Below.refl _ _).alloc (Nat.le_refl _) _), heap_alloc_new _ _, World.ownsRow_nil _ _ _ _, fun e => ?_, by simp [Value.ownBlock], fun u hu e => ?_⟩
  · have := h.H.mlt _ e; omega
  · have := h.alt u hu _ e; omega

set_option maxRecDepth 100000 in
set_option maxHeartbeats 1000000 in
theorem canon_any (w : World) (x : Ex) (g : Nat) (cs : List Value) (nv vc : Nat) (ao : Option Addr) (hg : w.heap[g]? = some (.cells cs.toArray 125 (0, 0))) (hE : ERep w (fun _ => True) x cs) (hvi : varsIn nv x) (hnv : nv ≤ 12) (hsz : szE x ≤ 40000) (hs : short x) :
    Calls Tryz.prog 39 #[.agg #[.string ByteArray.empty, .slice (some ⟨g, 0, none⟩) 1 1, .int .u8 0, .string ByteArray.empty, .slice none 0 0, .slice none 0 0, .slice ao nv vc]] w fun e w' => Below w.heap.size w w' ∧ e = .returned (.string (B (outS x 0 []).1)) := by
  obtain ⟨w1, hw1⟩ : ∃ w1, w1 = w.alloc (.cells #[.string ByteArray.empty, .slice (some ⟨g, 0, none⟩) 1 1, .int .u8 0, .string ByteArray.empty, .slice none 0 0, .slice none 0 0, .slice ao nv vc] 50) := ⟨_, rfl⟩
  have hB1 : Below w.heap.size w w1 := by rw [hw1]; exact (Below.refl _ _).alloc (Nat.le_refl _) _
  have hs1 : w1.heap.size = w.heap.size + 1 := by rw [hw1]; simp
  have hx1 : w1.heap[w.heap.size]? = some (.cells #[.string ByteArray.empty, .slice (some ⟨g, 0, none⟩) 1 1, .int .u8 0, .string ByteArray.empty, .slice none 0 0, .slice none 0 0, .slice ao nv vc] 50 (0, 0)) := by rw [hw1]; exact heap_alloc_new _ _
  have HS1 := hide hs1
  have hgl := (Array.getElem?_eq_some_iff.1 hg).1
  obtain ⟨e0, e1, e2, e3, eo, en, ec, hcs⟩ := hE.shape
  have hgl1 : ∀ {w' : World}, (∀ b, b ≤ w.heap.size → w'.heap[b]? = w1.heap[b]?) → w'.heap[g]? = some (.cells cs.toArray 125 (0, 0)) := fun h => by
    rw [h g (by omega), hB1.block g hgl]; exact hg
  go_enter Tryz.func39, Tryz.ntmps39
  go_wp2_with fail
  rw [← hw1]
  clear hw1 hs1
  refine (new_any w1 _).mono ?_
  rintro e w2 ⟨rfl, hB2, hT2⟩
  have hs2 := HS1.out
  have hz2 := hB2.size
  have hbx2 : w2.heap[w.heap.size]? = _ := (hB2.block w.heap.size (by omega)).trans hx1
  obtain ⟨b0, b1, b2, b3, b4, b5, b6, bf⟩ := box7 hbx2
  clear hs2
  go_wp2_with fail
  refine (fresh_any hT2 nv (by omega)).mono ?_
  rintro e w3 ⟨v, V1, rfl, hF⟩
  have hz3 := hF.fr.size
  have hk3 : ∀ b, b ≤ w.heap.size → w3.heap[b]? = w1.heap[b]? := fun b hb => by
    have q := HS1.out
    rw [hF.fr.block b (by omega) (fun e => ?_), hB2.block b (by omega)]
    rcases e with e | ⟨i, e⟩
    · omega
    · simp [V0, Value.ownBlock] at e
  have hbx3 : w3.heap[w.heap.size]? = _ := (hk3 _ (Nat.le_refl _)).trans hx1
  obtain ⟨d0, d1, d2, d3, d4, d5, d6, df⟩ := box7 hbx3
  have hg3 := hgl1 hk3
  have hE3 : ERep w3 (fun b => b < w.heap.size) x cs := hE.frame (fun b _ hb => ⟨(hk3 b (by omega)).trans (hB1.block b hb), hb⟩)
  have hT3 : TabN w3 w1.heap.size V1 (List.replicate nv varNd) (List.replicate nv (.slice none 0 0)) 0 1073741824 := by
    have := hF.T
    unfold TabN
    rw [List.length_replicate]
    exact this
  have hM3 : ∀ b, HM w1.heap.size V1 b → w.heap.size ≤ b := fun b q => by
    have q1 := HS1.out
    rcases hF.fr.mnew b q with (e | ⟨i, e⟩) | e
    · omega
    · simp [V0, Value.ownBlock] at e
    · omega
  obtain ⟨vo, vc', hv⟩ := row_form hF.own
  subst hv
  have hvr : (List.range nv).length = nv := List.length_range
  have HM := hide (made_any _ x (Nat.le_refl _) w3 w1.heap.size V1 (List.replicate nv varNd) (List.replicate nv (.slice none 0 0)) 0 1073741824 cs w.heap.size (fun b => b < w.heap.size) vo vc' (List.range nv) hT3 hE3 (fun b q => q) hM3 (by have := HS1.out; omega)
    (by rw [hvr]; exact own_zero hF.own) (by rw [hvr]; exact hF.vn) (by rw [hvr]; exact hvi) (by omega) (by simp; omega))
  rw [hvr] at HM
  subst hcs
  have hg3' : w3.heap[g]? = some (.cells #[.int .u8 e0, .string e1, .int .i64 e2, .int .i64 e3, .slice eo en ec] 125 (0, 0)) := hg3
  obtain ⟨q0, q1, q2, q3, q4, qf⟩ := box5 hg3'
  have hgl3 : g < w3.heap.size := (Array.getElem?_eq_some_iff.1 hg3).1
  clear hvr hg3
  go_wp2_with fail
  refine HM.out.mono ?_
  rintro e w4 ⟨rfl, V2, avs2, hT4, hf4, hn4⟩
  have hW := win_new hT4
  have hml := madeS_len (List.range nv) x (List.replicate nv varNd)
  rw [List.length_replicate] at hml
  have hpos := szE_pos x
  have hhas := has_made (List.range nv) x (List.replicate nv varNd) (replicate_vars nv) (by rw [List.length_range]; exact hvi)
  have HX := hide (text_any (List.range nv) (fun k t h => range_get h) _ x (Nat.le_refl _) hs _ _ _ _ _ _ _ _ _ _ _ 0 hW hhas (by omega) (by omega) (by omega) (by omega) (by simp; omega))
  have hz4 := hf4.size
  obtain ⟨tn, htn⟩ : ∃ t, t = (madeS (List.range nv) x (List.replicate nv varNd)).1 := ⟨_, rfl⟩
  rw [← htn] at HX ⊢
  clear hhas htn
  go_wp2_with fail
  refine HX.out.mono ?_
  rintro e w5 ⟨sv5, cost5, rfl, h5, hc5, hc5', hf5⟩
  go_wp2_with fail
  go_ret
  refine ⟨?_, rfl⟩
  have q := HS1.out
  have hz1 := hB2.size
  have ht3 := hF.fr
  refine ⟨by rw [hf5.os]; exact hf4.os.trans (ht3.os.trans (hB2.os.trans hB1.os)), by rw [hf5.tape]; exact hf4.tape.trans (ht3.tape.trans (hB2.tape.trans hB1.tape)), by rw [hf5.output]; exact hf4.output.trans (ht3.output.trans (hB2.output.trans hB1.output)), ?_, fun b hb => ?_⟩
  · have := hf5.size; simp at this; omega
  · have hnb : b ≠ w1.heap.size := by omega
    rw [hf5.block b (by simp; omega) hnb (by omega) (by simp [Value.ownBlock]), Below.heap_alloc _ _ _ (by omega), hf4.block b (by omega) (fun e => by have := hM3 b e; omega), hk3 b (by omega), hB1.block b hb]

end Go.Proofs.YtodpkdajbnceoaaGreatDoor

namespace Go.Proofs.YtodpkdajbnceoaaGreatDoor
open Go.RowKit

/-! What the grammar reads is small: its size, its names, its variables. -/

mutual
theorem varsIn_mono {n m : Nat} (h : n ≤ m) : ∀ {x : Ex}, varsIn n x → varsIn m x
  | .atom _, _ => trivial
  | .num _, _ => trivial
  | .var k, q => Nat.lt_of_lt_of_le (show k < n from q) h
  | .cmp _ args, q => varsInL_mono h (l := args) q
theorem varsInL_mono {n m : Nat} (h : n ≤ m) : ∀ {l : List Ex}, varsInL n l → varsInL m l
  | [], _ => trivial
  | _ :: _, q => ⟨varsIn_mono h q.1, varsInL_mono h q.2⟩
end

theorem shortL_snoc : ∀ {l : List Ex} {x : Ex}, shortL l → short x → shortL (l ++ [x])
  | [], _, _, h => ⟨h, trivial⟩
  | _ :: _, _, h, q => ⟨h.1, shortL_snoc h.2 q⟩
theorem varsInL_snoc {n : Nat} : ∀ {l : List Ex} {x : Ex}, varsInL n l → varsIn n x → varsInL n (l ++ [x])
  | [], _, _, h => ⟨h, trivial⟩
  | _ :: _, _, h, q => ⟨h.1, varsInL_snoc h.2 q⟩

theorem tk_lt {toks : List Tok} {i : Nat} (h : (tk toks i).k ≠ 101) : i < toks.length := by
  by_cases q : i < toks.length
  · exact q
  · refine absurd ?_ h
    unfold tk
    rw [List.getD_eq_getElem?_getD, List.getElem?_eq_none (by omega)]
    rfl

theorem isT_lt {toks : List Tok} {i : Nat} {s : List UInt8} (h : isT (tk toks i) s = true) : i < toks.length := tk_lt (by
  intro e
  unfold isT at h
  rw [e] at h
  simp at h)

structure Got (toks : List Tok) (st st' : St) (x : Ex) : Prop where
  size : st.1 + szE x ≤ st'.1
  le : st'.1 ≤ toks.length
  short : short x
  ext : ∃ m, st'.2 = st.2 ++ m
  vars : varsIn st'.2.length x

structure GotL (toks : List Tok) (st st' : St) (l : List Ex) (k : Nat) : Prop where
  size : st.1 + szL l + l.length ≤ st'.1 + k
  le : st'.1 ≤ toks.length
  short : shortL l
  ext : ∃ m, st'.2 = st.2 ++ m
  vars : varsInL st'.2.length l

def PartOk (toks : List Tok) (part : St → R Ex) : Prop := ∀ st x st', part st = .ok (x, st') → Got toks st st' x

theorem ext_trans {a b c : List ByteArray} (h : ∃ m, b = a ++ m) (q : ∃ m, c = b ++ m) : ∃ m, c = a ++ m := by
  obtain ⟨m, rfl⟩ := h
  obtain ⟨n, rfl⟩ := q
  exact ⟨m ++ n, by simp⟩
theorem ext_le {a b : List ByteArray} (h : ∃ m, b = a ++ m) : a.length ≤ b.length := by
  obtain ⟨m, rfl⟩ := h
  simp

theorem ops_got {toks : List Tok} {part : St → R Ex} {isOp : Tok → Bool} (hp : PartOk toks part) (ho : ∀ i, isOp (tk toks i) = true → i < toks.length) (hn : ∀ i, (tk toks i).t.size ≤ 2000) :
    ∀ (f : Nat) (x : Ex) (st0 st : St) (y : Ex) (st' : St), Got toks st0 st x → opsLoop toks part isOp f x st = .ok (y, st') → Got toks st0 st' y
  | 0, x, st0, st, y, st', h, e => by
    rw [opsLoop] at e; cases e; exact h
  | f + 1, x, st0, st, y, st', h, e => by
    rw [opsLoop] at e
    split at e
    · rename_i hop
      split at e
      · cases e
      · rename_i z st1 hz
        have h1 := hp _ _ _ hz
        refine ops_got hp ho hn f (.cmp (tk toks st.1).t [x, z]) st0 st1 y st' ⟨?_, h1.le, ⟨hn _, h.short, h1.short, trivial⟩, ext_trans h.ext h1.ext, ⟨varsIn_mono (ext_le h1.ext) h.vars, h1.vars, trivial⟩⟩ e
        have a := h.size
        have b := h1.size
        simp only [szE, szL]
        simp only at b
        omega
    · cases e; exact h

theorem product_got {toks : List Tok} {prim : St → R Ex} (hp : PartOk toks prim) (hn : ∀ i, (tk toks i).t.size ≤ 2000) : PartOk toks (productOf toks prim) := by
  intro st x st' e
  unfold productOf at e
  split at e
  · cases e
  · rename_i y st1 hy
    refine ops_got hp (fun i h => tk_lt fun q => ?_) hn _ _ _ _ _ _ (hp _ _ _ hy) e
    unfold isMul at h; rw [q] at h; simp at h

theorem expr_got {toks : List Tok} {prim : St → R Ex} (hp : PartOk toks prim) (hn : ∀ i, (tk toks i).t.size ≤ 2000) : PartOk toks (exprOf toks prim) := by
  intro st x st' e
  unfold exprOf at e
  split at e
  · cases e
  · rename_i y st1 hy
    refine ops_got (product_got hp hn) (fun i h => tk_lt fun q => ?_) hn _ _ _ _ _ _ (product_got hp hn _ _ _ hy) e
    unfold isAdd at h; rw [q] at h; simp at h

theorem row_got {toks : List Tok} {ex : St → R Ex} (hp : PartOk toks ex) :
    ∀ (f : Nat) (acc : List Ex) (st0 st : St) (l : List Ex) (st' : St), GotL toks st0 st acc 0 → rowOf toks ex f acc st = .ok (l, st') → GotL toks st0 st' l 1
  | 0, acc, st0, st, l, st', h, e => by
    rw [rowOf] at e; cases e; exact ⟨by have := h.size; omega, h.le, h.short, h.ext, h.vars⟩
  | f + 1, acc, st0, st, l, st', h, e => by
    rw [rowOf] at e
    split at e
    · cases e
    · rename_i x st1 hx
      have h1 := hp _ _ _ hx
      have a := h.size
      have b := h1.size
      have hs := shortL_snoc h.short h1.short
      have hv := varsInL_snoc (varsInL_mono (ext_le h1.ext) h.vars) h1.vars
      have hsz := szL_snoc acc x
      split at e
      · rename_i hc
        have hl := isT_lt hc
        exact row_got hp f (acc ++ [x]) st0 (st1.1 + 1, st1.2) l st' ⟨by rw [hsz, List.length_append]; show st0.1 + (szL acc + szE x) + (acc.length + 1) ≤ st1.1 + 1 + 0; omega, hl, hs, ext_trans h.ext h1.ext, hv⟩ e
      · cases e
        exact ⟨by simp only [List.length_append, List.length_cons, List.length_nil, hsz]; omega, h1.le, hs, ext_trans h.ext h1.ext, hv⟩

theorem must_ok {α : Type} {toks : List Tok} {s : List UInt8} {x y : α} {st st' : St} (h : mustT toks s x st = .ok (y, st')) : y = x ∧ st' = (st.1 + 1, st.2) ∧ st.1 < toks.length := by
  unfold mustT at h
  split at h
  · rename_i q; cases h; exact ⟨rfl, rfl, isT_lt q⟩
  · cases h

theorem fold_facts (n : Nat) (r : Ex) (hr : short r) (hv : varsIn n r) : ∀ (l : List Ex), shortL l → varsInL n l → szE (l.foldr cellEx r) = szL l + l.length + szE r ∧ short (l.foldr cellEx r) ∧ varsIn n (l.foldr cellEx r)
  | [], _, _ => ⟨by simp [szL], hr, hv⟩
  | x :: l, h, q => by
    obtain ⟨h1, h2, h3⟩ := fold_facts n r hr hv l h.2 q.2
    refine ⟨?_, ⟨by rw [B_size]; decide, h.1, h2, trivial⟩, ⟨q.1, h3, trivial⟩⟩
    simp only [List.foldr_cons, cellEx, szE, szL, List.length_cons] at h1 ⊢
    omega

theorem list_got {toks : List Tok} {ex : St → R Ex} (hp : PartOk toks ex) (st : St) (hst : st.1 ≤ toks.length) (x : Ex) (st' : St) (e : listOf toks ex st = .ok (x, st')) :
    st.1 + szE x ≤ st'.1 + 1 ∧ st'.1 ≤ toks.length ∧ short x ∧ (∃ m, st'.2 = st.2 ++ m) ∧ varsIn st'.2.length x := by
  have hnil : short nilEx := by show (B [91, 93]).size ≤ 2000; rw [B_size]; decide
  unfold listOf at e
  split at e
  · rename_i h
    have := isT_lt h
    cases e
    exact ⟨by simp [nilEx, szE], this, hnil, ⟨[], by simp⟩, trivial⟩
  · split at e
    · cases e
    · rename_i l st1 hl
      have h1 := row_got hp _ [] st st _ _ ⟨by simp [szL], hst, trivial, ⟨[], by simp⟩, trivial⟩ hl
      have a := h1.size
      split at e
      · rename_i hb
        split at e
        · cases e
        · rename_i r st2 hr
          have h2 := hp _ _ _ hr
          have b := h2.size
          obtain ⟨rfl, rfl, h3⟩ := must_ok e
          obtain ⟨q1, q2, q3⟩ := fold_facts st2.2.length r h2.short h2.vars l h1.short (varsInL_mono (ext_le h2.ext) h1.vars)
          exact ⟨by rw [q1]; simp only at b ⊢; omega, h3, q2, ext_trans h1.ext h2.ext, q3⟩
      · obtain ⟨rfl, rfl, h3⟩ := must_ok e
        obtain ⟨q1, q2, q3⟩ := fold_facts st1.2.length nilEx hnil trivial l h1.short h1.vars
        exact ⟨by rw [q1]; simp only [nilEx, szE]; omega, h3, q2, h1.ext, q3⟩

theorem num_short {t : Tok} (h : t.t.size ≤ 9 ∧ AllDig t.t.data.toList) : short (.num (digVal t.t.data.toList)) ∧ short (.num (-digVal t.t.data.toList)) := by
  have hb := digVal_bound t.t.data.toList h.2
  have hl : t.t.data.toList.length ≤ 9 := by rw [Array.length_toList]; exact h.1
  have hp : (10 : Int) ^ t.t.data.toList.length ≤ 10 ^ 9 := by
    have := Nat.pow_le_pow_right (n := 10) (by omega) hl
    exact_mod_cast this
  have h9 : (10 : Int) ^ 9 = 1000000000 := by decide
  exact ⟨⟨by omega, by omega⟩, ⟨by omega, by omega⟩⟩

theorem bare_got {toks : List Tok} {ex : St → R Ex} (hg : GoodToks toks) (hn : ∀ i, (tk toks i).t.size ≤ 2000) (hp : PartOk toks ex) : PartOk toks (bareOf toks ex) := by
  intro st x st' e
  unfold bareOf at e
  simp only at e
  split at e
  · rename_i hk
    have := tk_lt (toks := toks) (i := st.1) (by rw [hk]; decide)
    cases e
    exact ⟨by simp [szE], this, (num_short (hg.num _ hk)).1, ⟨[], by simp⟩, trivial⟩
  · split at e
    · rename_i hk
      have hlt := tk_lt (toks := toks) (i := st.1) (by rw [hk]; decide)
      unfold varOf at e
      split at e
      · rename_i k hf
        cases e
        refine ⟨by simp [szE], hlt, trivial, ⟨[], by simp⟩, ?_⟩
        unfold findVar at hf
        split at hf
        · cases hf
        · exact (List.findIdx?_eq_some_iff_getElem.1 hf).1
      · split at e
        · cases e
        · cases e
          exact ⟨by simp [szE], hlt, trivial, ⟨_, rfl⟩, by show st.2.length < _; simp⟩
    · split at e
      · rename_i hk
        have hlt := tk_lt (toks := toks) (i := st.1) (by rw [hk]; decide)
        split at e
        · rename_i hop
          have hlt2 := isT_lt hop
          split at e
          · cases e
          · rename_i l st1 hl
            obtain ⟨rfl, rfl, h3⟩ := must_ok e
            unfold argsOf at hl
            split at hl
            · cases hl
            · rename_i l2 st2 hl2
              split at hl
              · cases hl
              · cases hl
                have h1 := row_got hp _ [] (st.1 + 2, st.2) (st.1 + 2, st.2) _ _ ⟨by simp [szL], hlt2, trivial, ⟨[], by simp⟩, trivial⟩ hl2
                have a := h1.size
                refine ⟨?_, h3, ⟨hn _, h1.short⟩, h1.ext, h1.vars⟩
                simp only [szE]
                simp only at a
                omega
        · cases e
          exact ⟨by simp [szE], hlt, hn _, ⟨[], by simp⟩, trivial⟩
      · split at e
        · split at e
          · rename_i hk
            have hlt := tk_lt (toks := toks) (i := st.1 + 1) (by rw [hk]; decide)
            cases e
            exact ⟨by simp [szE], hlt, (num_short (hg.num _ hk)).2, ⟨[], by simp⟩, trivial⟩
          · cases e
        · split at e
          · split at e
            · cases e
            · rename_i y st1 hy
              obtain ⟨rfl, rfl, h3⟩ := must_ok e
              have h1 := hp _ _ _ hy
              have a := h1.size
              exact ⟨by simp only at a ⊢; omega, h3, h1.short, h1.ext, h1.vars⟩
          · split at e
            · rename_i hb
              have hlt := isT_lt hb
              obtain ⟨a, h2, h3, h4, h5⟩ := list_got hp (st.1 + 1, st.2) hlt x st' e
              exact ⟨by simp only at a; omega, h2, h3, h4, h5⟩
            · cases e

theorem prim_got {toks : List Tok} (hg : GoodToks toks) (hn : ∀ i, (tk toks i).t.size ≤ 2000) : ∀ k, PartOk toks (primS toks k)
  | 0 => fun st x st' e => by rw [primS] at e; cases e
  | k + 1 => fun st x st' e => by
    rw [primS] at e
    exact bare_got hg hn (expr_got (prim_got hg hn k) hn) st x st' e

theorem sign_size {s : ByteArray} {i : Nat} (hlt : i < s.size) : (B (signAt s i)).size ≤ s.size := by
  have := signAt_fits s i hlt
  omega

theorem lex_names {s : ByteArray} : ∀ (f i : Nat) (acc l : List Tok), lexGo s f i acc = .ok l → (∀ t ∈ acc, t.t.size ≤ s.size) → ∀ t ∈ l, t.t.size ≤ s.size
  | 0, i, acc, l, h, hg => by
    cases h; exact hg
  | f + 1, i, acc, l, h, hg => by
    rw [lexGo] at h
    split at h
    · rename_i hlt
      split at h
      · exact lex_names f (i + 1) acc l h hg
      · split at h
        · split at h
          · cases h
          · refine lex_names f _ _ l h (fun t ht => ?_)
            rcases List.mem_append.1 ht with ht | ht
            · exact hg t ht
            · have ht := List.mem_singleton.1 ht
              subst ht
              show (s.extract i (wordEnd s i)).size ≤ s.size
              rw [ByteArray.size_extract]
              omega
        · split at h
          · cases h
          · refine lex_names f _ _ l h (fun t ht => ?_)
            rcases List.mem_append.1 ht with ht | ht
            · exact hg t ht
            · have ht := List.mem_singleton.1 ht
              subst ht
              exact sign_size hlt
    · cases h; exact hg

theorem term_got {s : ByteArray} {x : Ex} {vars : List ByteArray} (h : termS s = .ok (x, vars)) : szE x ≤ 2001 ∧ short x ∧ varsIn vars.length x := by
  unfold termS at h
  split at h
  · cases h
  · rename_i hs
    split at h
    · cases h
    · rename_i l hl
      have hg := good_toks (s := s) (by omega) hl
      have hn : ∀ i, (tk (withEnd s l) i).t.size ≤ 2000 := fun i => by
        have hl' := lex_names s.size 0 [] l hl (by simp)
        unfold tk
        rw [List.getD_eq_getElem?_getD]
        cases q : (withEnd s l)[i]? with
        | none => simp
        | some t =>
          simp only [Option.getD_some]
          have hm := List.mem_of_getElem? q
          unfold withEnd at hm
          rcases List.mem_append.1 hm with hm | hm
          · have := hl' t hm; omega
          · have := List.mem_singleton.1 hm; subst this; simp
      split at h
      · cases h
      · rename_i y st hy
        split at h
        · cases h
          have hG := expr_got (prim_got hg hn 8) hn _ _ _ hy
          have a := hG.size
          have b := hG.le
          have c := hg.small
          exact ⟨by simp only at a; omega, hG.short, hG.vars⟩
        · cases h

end Go.Proofs.YtodpkdajbnceoaaGreatDoor

namespace Go.Proofs.YtodpkdajbnceoaaGreatDoor
open Go.RowKit

/-- what plain.Read must answer -/
def PlainPost (s : ByteArray) (w : World) (e : Ending) (w' : World) : Prop :=
  Below w.heap.size w w' ∧
  match termS s with
  | .error (er, a) => e = .returned (.tuple #[.string ByteArray.empty, .int .i64 er, .int .i64 a])
  | .ok (x, _) => ∃ a : Int, e = .returned (.tuple #[.string (B (outS x 0 []).1), .int .i64 0, .int .i64 a])

theorem below_seq {a b c : World} (h : Below a.heap.size a b) (k : Below b.heap.size b c) : Below a.heap.size a c :=
  ⟨k.os.trans h.os, k.tape.trans h.tape, k.output.trans h.output, Nat.le_trans h.size k.size, fun x hx => (k.block x (by have := h.size; omega)).trans (h.block x hx)⟩

set_option maxRecDepth 100000 in
set_option maxHeartbeats 1000000 in
theorem read_any (s : ByteArray) (w : World) (hs : s.size ≤ 32768) (hR : Calls Tryz.prog 31 #[.string s] w fun e w' => PlainPost s w e w') :
    Calls Tryz.prog 15 #[.string s] w fun e w' => Below w.heap.size w w' ∧ e = .returned (.bool true) := by
  have HT := hide (fun w' => term_any s w' hs)
  cases ht : termS s with
  | error p =>
    obtain ⟨er, a⟩ := p
    have HR : Hid (Calls Tryz.prog 31 #[.string s] w fun e w' => Below w.heap.size w w' ∧ e = .returned (.tuple #[.string ByteArray.empty, .int .i64 er, .int .i64 a])) := hR.mono fun e w' h => by
      unfold PlainPost at h; rw [ht] at h; exact h
    have HT' : Hid (∀ w', Calls Tryz.prog 38 #[.string s] w' fun e w'' => Below w'.heap.size w' w'' ∧ e = .returned (.tuple #[(.agg #[.string ByteArray.empty, .slice none 0 0, .int .u8 0, .string ByteArray.empty, .slice none 0 0, .slice none 0 0, .slice none 0 0]), .int .i64 er, .int .i64 a]) ∧ er ≠ 0) := fun w' => (HT.out w').mono fun e w'' h => by
      unfold TermPost at h; rw [ht] at h; exact h
    clear hR HT ht
    go_enter Tryz.func15, Tryz.ntmps15
    go_wp2_with (first | (go_at_call 31; refine HR.out.mono ?_; rintro e w1 ⟨hB1, rfl⟩) | (go_at_call 38; refine (HT'.out _).mono ?_; rintro e w2 ⟨hB2, rfl, hne⟩; have hne' : (er == 0) = false := by simpa using hne))
    go_ret
    refine ⟨?_, rfl⟩
    exact below_seq hB1 (below_seq hB2 ((Below.refl _ _).alloc (Nat.le_refl _) _))
  | ok p =>
    obtain ⟨x, vars⟩ := p
    obtain ⟨hz, hsh, hvi⟩ := term_got ht
    have HR : Hid (Calls Tryz.prog 31 #[.string s] w fun e w' => Below w.heap.size w w' ∧ ∃ a : Int, e = .returned (.tuple #[.string (B (outS x 0 []).1), .int .i64 0, .int .i64 a])) := hR.mono fun e w' h => by
      unfold PlainPost at h; rw [ht] at h; exact h
    have HT' : Hid (∀ w', Calls Tryz.prog 38 #[.string s] w' fun e w'' => TermPost s w' e w'') := HT.out
    go_enter Tryz.func15, Tryz.ntmps15
    go_wp2_with (first | (go_at_call 31; refine HR.out.mono ?_; rintro e w1 ⟨hB1, at1, rfl⟩))
    refine (HT'.out _).mono ?_
    rintro e w2 ⟨hB2, hterm⟩
    rw [ht] at hterm
    obtain ⟨g, vv, cs, rfl, hg, hE, hvv, hv12⟩ := hterm
    obtain ⟨vo, vc, hvf⟩ := row_form hvv
    subst hvf
    go_wp2_with fail
    have hB3 : Below w2.heap.size w2 (w2.alloc (.cells #[.string ByteArray.empty, .slice (some ⟨g, 0, none⟩) 1 1, .int .u8 0, .string ByteArray.empty, .slice none 0 0, .slice none 0 0, .slice vo vars.length vc] 50)) := (Below.refl _ _).alloc (Nat.le_refl _) _
    have hgl := (Array.getElem?_eq_some_iff.1 hg).1
    refine (canon_any _ x g cs vars.length vc vo (by rw [hB3.block g hgl]; exact hg) (hE.frame fun b _ hb => ⟨hB3.block b hb, trivial⟩) hvi (by omega) (by omega) hsh).mono ?_
    rintro e w4 ⟨hB4, rfl⟩
    go_wp2_with fail
    go_ret
    exact ⟨below_seq hB1 (below_seq hB2 (below_seq hB3 hB4)), rfl⟩

set_option maxRecDepth 100000 in
set_option maxHeartbeats 1000000 in
theorem reads_any (s : ByteArray) (w : World) (hs : s.size ≤ 9223372036854775807) (hR : s.size ≤ 32768 → Calls Tryz.prog 31 #[.string s] w fun e w' => PlainPost s w e w') :
    Calls Tryz.prog 3 #[.string s] w fun e w' => Below w.heap.size w w' ∧ e = .returned (.bool true) := by
  by_cases h : s.size ≤ 32768
  · have HR := hide (read_any s w h (hR h))
    clear hR
    go_enter Tryz.func3, Tryz.ntmps3
    go_wp2_with (first | (go_at_call 15; refine HR.out.mono ?_; rintro e w1 ⟨hB1, rfl⟩))
    go_ret
    exact ⟨hB1, rfl⟩
  · clear hR
    go_enter Tryz.func3, Tryz.ntmps3
    go_wp2_with fail
    go_ret
    exact ⟨Below.refl _ _, rfl⟩

end Go.Proofs.YtodpkdajbnceoaaGreatDoor
