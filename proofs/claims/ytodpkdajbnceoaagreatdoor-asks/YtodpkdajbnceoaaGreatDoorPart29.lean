import Derived.Test.YtodpkdajbnceoaaGreatDoorPart05
import Derived.Test.YtodpkdajbnceoaaGreatDoorPart28
import Derived.Defers
import Derived.Recover
import Derived.Laws.IdiomStrings
set_option linter.all false
set_option maxHeartbeats 1000000
set_option maxRecDepth 100000
namespace Go.Proofs.YtodpkdajbnceoaaGreatDoor
open Go.RowKit
structure TT (t : Tok) : Prop where
  kind : t.k = 97 ∨ t.k = 118 ∨ t.k = 110 ∨ t.k = 115 ∨ t.k = 101
  e : t.k = 101 → t.t = ByteArray.empty
  n : t.k = 110 → cls (t.t.data.toList.headD 0).toNat = 100
  v : t.k = 118 → cls (t.t.data.toList.headD 0).toNat = 99
  a : t.k = 97 → cls (t.t.data.toList.headD 0).toNat = 115
  s : t.k = 115 → cls (t.t.data.toList.headD 0).toNat = 0
theorem wordK_a {l : List UInt8} (h : wordK l = 97) : cls (l.headD 0).toNat = 115 := by
  unfold wordK at h
  (repeat' split at h) <;> first | (cases h; done) | (rename_i h3; exact h3.1)
theorem signAt_cls (s : ByteArray) (i : Nat) (h : signAt s i ≠ []) : cls ((signAt s i).headD 0).toNat = 0 := by
  rcases signAt_cases s i with h1 | ⟨h1, _⟩ | ⟨h1, _⟩
  · exact absurd h1 h
  · rw [h1]; decide
  · have : ∀ x ∈ signL, cls (x.headD 0).toNat = 0 := by decide
    exact this _ h1
theorem B_list (l : List UInt8) : (B l).data.toList = l := by simp [B]
theorem wordK_n {l : List UInt8} (h : wordK l = 110) : cls (l.headD 0).toNat = 100 := by
  unfold wordK at h
  (repeat' split at h) <;> first | (cases h; done) | (rename_i h3 _; exact Decidable.byContradiction fun e => h3 (.inl e))
theorem wordK_v {l : List UInt8} (h : wordK l = 118) : cls (l.headD 0).toNat = 99 := by
  unfold wordK at h
  (repeat' split at h) <;> first | (cases h; done) | (rename_i h3; exact h3.1)
theorem wordK_kind {l : List UInt8} (hk : ¬ wordK l = 0) : wordK l = 97 ∨ wordK l = 118 ∨ wordK l = 110 ∨ wordK l = 115 ∨ wordK l = 101 := by
  rcases wordK_cases l with h | h | h | h
  · exact absurd h hk
  · exact .inl h
  · exact .inr (.inl h)
  · exact .inr (.inr (.inl h))
theorem lex_tt {s : ByteArray} : ∀ (f i : Nat) (acc l : List Tok), lexGo s f i acc = .ok l → (∀ t ∈ acc, TT t) → ∀ t ∈ l, TT t
  | 0, i, acc, l, h, hg => by
    cases h; exact hg
  | f + 1, i, acc, l, h, hg => by
    rw [lexGo] at h
    split at h
    · split at h
      · exact lex_tt f (i + 1) acc l h hg
      · split at h
        · split at h
          · cases h
          · rename_i hk
            refine lex_tt f _ _ l h (fun t ht => ?_)
            rcases List.mem_append.1 ht with ht | ht
            · exact hg t ht
            · have ht := List.mem_singleton.1 ht
              subst ht
              refine ⟨wordK_kind hk, fun hk => absurd hk (wordK_noend _), fun hk => wordK_n hk, fun hk => wordK_v hk, fun hk => wordK_a hk, fun hk => ?_⟩
              · exact absurd (show wordK (s.extract i (wordEnd s i)).data.toList = 115 from hk) (by rcases wordK_cases (s.extract i (wordEnd s i)).data.toList with h | h | h | h <;> rw [h] <;> decide)
        · split at h
          · cases h
          · refine lex_tt f _ _ l h (fun t ht => ?_)
            rcases List.mem_append.1 ht with ht | ht
            · exact hg t ht
            · have ht := List.mem_singleton.1 ht
              subst ht
              exact ⟨.inr (.inr (.inr (.inl rfl))), fun hk => absurd hk (by show (115 : Int) ≠ 101; decide), fun hk => absurd hk (by show (115 : Int) ≠ 110; decide), fun hk => absurd hk (by show (115 : Int) ≠ 118; decide), fun hk => absurd hk (by show (115 : Int) ≠ 97; decide), fun _ => by show cls ((B (signAt s i)).data.toList.headD 0).toNat = 0; rw [B_list]; exact signAt_cls s i ‹_›⟩
    · cases h; exact hg
def TTs (toks : List Tok) : Prop := ∀ i, TT (tk toks i)
theorem tt_end (n : Nat) : TT ⟨101, ByteArray.empty, n⟩ :=
  ⟨.inr (.inr (.inr (.inr rfl))), fun _ => rfl, fun h => absurd h (by show (101 : Int) ≠ 110; decide), fun h => absurd h (by show (101 : Int) ≠ 118; decide), fun h => absurd h (by show (101 : Int) ≠ 97; decide), fun h => absurd h (by show (101 : Int) ≠ 115; decide)⟩
theorem tts_of {s : ByteArray} {l : List Tok} (h : lexS s = .ok l) : TTs (withEnd s l) := by
  have hg := lex_tt s.size 0 [] l h (by simp)
  intro i
  unfold tk
  rw [List.getD_eq_getElem?_getD]
  cases hq : (withEnd s l)[i]? with
  | none => exact tt_end 0
  | some t =>
    have hm := List.mem_of_getElem? hq
    unfold withEnd at hm
    rcases List.mem_append.1 hm with hm | hm
    · exact hg t hm
    · rw [List.mem_singleton] at hm; subst hm; exact tt_end _
def SignLike (s : List UInt8) : Prop := s ≠ [] ∧ cls (s.headD 0).toNat ≠ 100 ∧ cls (s.headD 0).toNat ≠ 99
theorem TT.isT {t : Tok} (h : TT t) {s : List UInt8} (hs : SignLike s) : isT t s = decide (t.t = B s) := by
  unfold Go.Proofs.YtodpkdajbnceoaaGreatDoor.isT
  by_cases he : t.t = B s
  · have hd : t.t.data.toList = s := (str_eq_iff _ _).1 he
    have hk : t.k = 115 ∨ t.k = 97 := by
      rcases h.kind with k | k | k | k | k
      · exact .inr k
      · have := h.v k; rw [hd] at this; exact absurd this hs.2.2
      · have := h.n k; rw [hd] at this; exact absurd this hs.2.1
      · exact .inl k
      · have := h.e k; rw [this] at hd; exact absurd hd.symm hs.1
    rcases hk with k | k <;> simp [k, he]
  · simp [he]
theorem TT.kC_end {t : Tok} (h : TT t) : (kC t.k = 4) ↔ t.k = 101 := by
  rcases h.kind with k | k | k | k | k <;> simp [k, kC]
theorem TT.kC_num {t : Tok} (h : TT t) : (kC t.k = 2) ↔ t.k = 110 := by
  rcases h.kind with k | k | k | k | k <;> simp [k, kC]
theorem TT.kC_var {t : Tok} (h : TT t) : (kC t.k = 1) ↔ t.k = 118 := by
  rcases h.kind with k | k | k | k | k <;> simp [k, kC]
theorem TT.kC_name {t : Tok} (h : TT t) : (kC t.k = 0) ↔ t.k = 97 := by
  rcases h.kind with k | k | k | k | k <;> simp [k, kC]
def ssS (n : ByteArray) : Int := if n = B [43] ∨ n = B [45] then 1 else if n = B [42] ∨ n = B [47, 47] ∨ n = B [109, 111, 100] then 2 else 3
theorem TT.sgn {t : Tok} (h : TT t) {s : List UInt8} (hs : s ≠ []) (hc : cls (s.headD 0).toNat = 0) : (t.k == 115 && decide (t.t = B s)) = decide (t.t = B s) := by
  by_cases he : t.t = B s
  · have hd : t.t.data.toList = s := (str_eq_iff _ _).1 he
    rcases h.kind with k | k | k | k | k
    · have := h.a k; rw [hd, hc] at this; cases this
    · have := h.v k; rw [hd, hc] at this; cases this
    · have := h.n k; rw [hd, hc] at this; cases this
    · simp [k]
    · have := h.e k; rw [this] at hd; exact absurd hd.symm hs
  · simp [he]
theorem TT.nam {t : Tok} (h : TT t) {s : List UInt8} (hs : s ≠ []) (hc : cls (s.headD 0).toNat = 115) : (t.k == 97 && decide (t.t = B s)) = decide (t.t = B s) := by
  by_cases he : t.t = B s
  · have hd : t.t.data.toList = s := (str_eq_iff _ _).1 he
    rcases h.kind with k | k | k | k | k
    · simp [k]
    · have := h.v k; rw [hd, hc] at this; cases this
    · have := h.n k; rw [hd, hc] at this; cases this
    · have := h.s k; rw [hd, hc] at this; cases this
    · have := h.e k; rw [this] at hd; exact absurd hd.symm hs
  · simp [he]
theorem B_ne_iff {a b : List UInt8} : (B a = B b) ↔ a = b := by rw [str_eq_iff, B_list]
theorem TT.add {t : Tok} (h : TT t) : isAdd t = decide (ssS t.t = 1) := by
  have e : isAdd t = (decide (t.t = B [43]) || decide (t.t = B [45])) := by
    unfold isAdd
    rw [Bool.and_or_distrib_left, h.sgn (by decide) (by decide), h.sgn (by decide) (by decide)]
  rw [e, Bool.eq_iff_iff]
  unfold ssS
  simp only [Bool.or_eq_true, decide_eq_true_eq]
  split
  · rename_i h1; simp [h1]
  · rename_i h1; simp only [h1, false_iff]; split <;> decide
theorem TT.mul {t : Tok} (h : TT t) : isMul t = decide (ssS t.t = 2) := by
  have e : isMul t = ((decide (t.t = B [42]) || decide (t.t = B [47, 47])) || decide (t.t = B [109, 111, 100])) := by
    unfold isMul
    rw [Bool.and_or_distrib_left, h.sgn (by decide) (by decide), h.sgn (by decide) (by decide), h.nam (by decide) (by decide)]
  rw [e, Bool.eq_iff_iff]
  unfold ssS
  simp only [Bool.or_eq_true, decide_eq_true_eq]
  split
  · rename_i h1
    have : ¬ (1 : Int) = 2 := by decide
    simp only [this, iff_false]
    rcases h1 with h1 | h1 <;> rw [h1] <;> simp [B_ne_iff]
  · split
    · rename_i h1; rw [or_assoc]; simp [h1]
    · rename_i h1; rw [or_assoc]; simp [h1]
theorem strb (n : ByteArray) (l : List UInt8) : (n = B l) ↔ (n.toList == l) = true := by rw [go_bytes_toList, beq_iff_eq, str_eq_iff]
theorem ssS_eq (n : ByteArray) : ssS n = if (n.toList == [43]) = true ∨ (n.toList == [45]) = true then 1 else if (n.toList == [42]) = true ∨ (n.toList == [47, 47]) = true ∨ (n.toList == [109, 111, 100]) = true then 2 else 3 := by
  unfold ssS
  simp only [strb]
theorem signStrength_c (n : ByteArray) (w : World) :
    Calls Tryz.prog 224 #[.string n] w fun e w' => e = .returned (.int .i64 (ssS n)) ∧ w' = w := by
  go_enter Tryz.func224, Tryz.ntmps224
  go_wp2
  all_goals go_ret
  all_goals refine ⟨ret_int ?_, rfl⟩
  all_goals rw [ssS_eq]
  all_goals simp_all
def ptrV (b : Nat) : Value := .pointer (some ⟨b, 0, none⟩)
structure RIn (w : World) (bp : Nat) (toks : List Tok) (lv vv : Value) (i : Nat) (d : Int) (vars : List ByteArray) (vbs : List Nat) : Prop where
  cells : w.heap[bp]? = some (.cells #[lv, .int .i64 i, .int .i64 d, vv] 295 (0, 0))
  l : w.ownsRow 0 298 3 lv toks.length (tokC toks)
  vrow : w.ownsRow 0 267 1 vv vbs.length (vbs.map ptrV)
  lb : lv.ownBlock ≠ some bp
  vb : vv.ownBlock ≠ some bp
  lvb : vv.ownBlock = none ∨ lv.ownBlock ≠ vv.ownBlock
  lt : i < toks.length
  vl : vbs.length = vars.length
  v12 : vars.length ≤ 12
  vblk : ∀ (k b : Nat), vbs[k]? = some b → ∃ n, vars[k]? = some n ∧ w.heap[b]? = some (.cells #[.string n, .int .i64 k, .nilIface, .int .i64 0] 269 (0, 0))
  nodup : vbs.Nodup
section
variable {w : World} {bp : Nat} {toks : List Tok} {lv vv : Value} {i : Nat} {d : Int} {vars : List ByteArray} {vbs : List Nat}
theorem RIn.lt_size (h : RIn w bp toks lv vv i d vars vbs) : bp < w.heap.size := (Array.getElem?_eq_some_iff.1 h.cells).1
theorem RIn.c0 (h : RIn w bp toks lv vv i d vars vbs) : w.cell? ⟨bp, 0, none⟩ = some lv := by rw [cell_of_block h.cells]; rfl
theorem RIn.c1 (h : RIn w bp toks lv vv i d vars vbs) : w.cell? ⟨bp, 1, none⟩ = some (.int .i64 i) := by rw [cell_of_block h.cells]; rfl
theorem RIn.c2 (h : RIn w bp toks lv vv i d vars vbs) : w.cell? ⟨bp, 2, none⟩ = some (.int .i64 d) := by rw [cell_of_block h.cells]; rfl
theorem RIn.c3 (h : RIn w bp toks lv vv i d vars vbs) : w.cell? ⟨bp, 3, none⟩ = some vv := by rw [cell_of_block h.cells]; rfl
theorem RIn.fz (h : RIn w bp toks lv vv i d vars vbs) (j : Nat) : w.frozen? ⟨bp, j, none⟩ = false := by simp [World.frozen?, h.cells]
theorem RIn.vb_ne (h : RIn w bp toks lv vv i d vars vbs) {b : Nat} (hb : b ∈ vbs) : b ≠ bp ∧ b < w.heap.size := by
  obtain ⟨k, hk, rfl⟩ := List.getElem_of_mem hb
  obtain ⟨n, _, hn⟩ := h.vblk k _ (List.getElem?_eq_getElem hk)
  refine ⟨fun e => ?_, (Array.getElem?_eq_some_iff.1 hn).1⟩
  rw [e, h.cells] at hn
  cases hn
theorem ownsRow_keep {w w' : World} {n T sz m : Nat} {v : Value} {xs : List Value} (h : w.ownsRow n T sz v m xs) (hb : ∀ b, v.ownBlock = some b → w'.heap[b]? = w.heap[b]?) : w'.ownsRow n T sz v m xs := by
  refine ⟨h.1, ?_⟩
  rcases h.2 with hl | ⟨g, cap, cur, rfl, r1, r2, r3⟩
  · exact .inl hl
  · exact .inr ⟨g, cap, cur, rfl, r1, by rw [hb g rfl]; exact r2, r3⟩
theorem RIn.keep {w' : World} (h : RIn w bp toks lv vv i d vars vbs) (hb : ∀ b, (b = bp ∨ lv.ownBlock = some b ∨ vv.ownBlock = some b ∨ b ∈ vbs) → w'.heap[b]? = w.heap[b]?) : RIn w' bp toks lv vv i d vars vbs := by
  refine ⟨by rw [hb bp (.inl rfl)]; exact h.cells, ownsRow_keep h.l fun b e => hb b (.inr (.inl e)), ownsRow_keep h.vrow fun b e => hb b (.inr (.inr (.inl e))), h.lb, h.vb, h.lvb, h.lt, h.vl, h.v12, fun k b hk => ?_, h.nodup⟩
  obtain ⟨n, h1, h2⟩ := h.vblk k b hk
  exact ⟨n, h1, by rw [hb b (.inr (.inr (.inr (List.mem_of_getElem? hk))))]; exact h2⟩
theorem RIn.blt (h : RIn w bp toks lv vv i d vars vbs) : ∀ b, (b = bp ∨ lv.ownBlock = some b ∨ vv.ownBlock = some b ∨ b ∈ vbs) → b < w.heap.size := by
  rintro b (rfl | hb | hb | hb)
  · exact h.lt_size
  · exact (h.l.lt b hb).2
  · exact (h.vrow.lt b hb).2
  · exact (h.vb_ne hb).2
theorem RIn.below {w' : World} (h : RIn w bp toks lv vv i d vars vbs) (hb : Below w.heap.size w w') : RIn w' bp toks lv vv i d vars vbs :=
  h.keep fun b e => hb.block b (h.blt b e)
theorem RIn.alloc (h : RIn w bp toks lv vv i d vars vbs) (o : Obj) : RIn (w.alloc o) bp toks lv vv i d vars vbs := h.below ((Below.refl _ _).alloc (Nat.le_refl _) o)
theorem RIn.drew (h : RIn w bp toks lv vv i d vars vbs) : RIn w.drew bp toks lv vv i d vars vbs := h.below ((Below.refl _ _).drew)
theorem RIn.setSame (h : RIn w bp toks lv vv i d vars vbs) (j : Nat) (u : Value) (i' : Nat) (d' : Int) (hi : i' < toks.length)
    (hc : (#[lv, .int .i64 i, .int .i64 d, vv] : Array Value).setIfInBounds j u = #[lv, .int .i64 i', .int .i64 d', vv]) :
    RIn (w.setCell ⟨bp, j, none⟩ u) bp toks lv vv i' d' vars vbs := by
  have hne : ∀ b, b ≠ bp → (w.setCell ⟨bp, j, none⟩ u).heap[b]? = w.heap[b]? := fun b hb => Below.heap_setCell _ _ _ _ hb
  refine ⟨by rw [heap_setCell_same h.cells, hc], ownsRow_keep h.l fun b e => hne b fun q => h.lb (by rw [← q]; exact e), ownsRow_keep h.vrow fun b e => hne b fun q => h.vb (by rw [← q]; exact e), h.lb, h.vb, h.lvb, hi, h.vl, h.v12, fun k b hk => ?_, h.nodup⟩
  obtain ⟨n, h1, h2⟩ := h.vblk k b hk
  exact ⟨n, h1, by rw [hne b (h.vb_ne (List.mem_of_getElem? hk)).1]; exact h2⟩
theorem RIn.setI (h : RIn w bp toks lv vv i d vars vbs) (n : Nat) (hn : n < toks.length) : RIn (w.setCell ⟨bp, 1, none⟩ (.int .i64 n)) bp toks lv vv n d vars vbs :=
  h.setSame 1 _ _ _ hn rfl
theorem RIn.setD (h : RIn w bp toks lv vv i d vars vbs) (n : Int) : RIn (w.setCell ⟨bp, 2, none⟩ (.int .i64 n)) bp toks lv vv i n vars vbs :=
  h.setSame 2 _ _ _ h.lt rfl
end
theorem tokC_get (toks : List Tok) (i : Nat) (h : i < toks.length) :
    (tokC toks)[i * 3]? = some (.int .i64 (kC (tk toks i).k)) ∧ (tokC toks)[i * 3 + 1]? = some (.string (tk toks i).t) ∧ (tokC toks)[i * 3 + 2]? = some (.int .i64 (tk toks i).a) := by
  induction toks generalizing i with
  | nil => simp at h
  | cons a l ih =>
    cases i with
    | zero => simp [tokC, tk]
    | succ i =>
      have := ih i (by simpa using h)
      have e1 : (i + 1) * 3 = (i * 3) + 3 := by omega
      have e2 : ∀ j, (tokC (a :: l))[j + 3]? = (tokC l)[j]? := fun j => by simp [tokC, List.flatMap_cons]
      rw [e1, show i * 3 + 3 + 1 = (i * 3 + 1) + 3 by omega, show i * 3 + 3 + 2 = (i * 3 + 2) + 3 by omega, e2, e2, e2]
      simpa [tk] using this
def tokB (t : Tok) : Obj := .cells #[.int .i64 (kC t.k), .string t.t, .int .i64 t.a] 298
def tokVC (t : Tok) : Value := .agg #[.int .i64 (kC t.k), .string t.t, .int .i64 t.a]
section
variable {w : World} {bp : Nat} {toks : List Tok} {lv vv : Value} {i : Nat} {d : Int} {vars : List ByteArray} {vbs : List Nat}
theorem now_c (h : RIn w bp toks lv vv i d vars vbs) (hg : GoodToks toks) :
    Calls Tryz.prog 156 #[ptrV bp] w fun e w' => e = .returned (tokVC (tk toks i)) ∧ w' = (w.alloc (tokB (tk toks i))).drew := by
  have hc0 := h.c0
  have hc1 := h.c1
  have hlt := h.lt
  have hsm := hg.small
  have hbs := h.lt_size
  rcases h.l.2 with ⟨_, h0⟩ | ⟨g, cap, cur, rfl, _, hgg, hcap, hmx, hsz, htk⟩
  · have := hg.pos; omega
  obtain ⟨t1, t2, t3⟩ := tokC_get toks i hlt
  have hgs : g < w.heap.size := (Array.getElem?_eq_some_iff.1 hgg).1
  have k1 : w.cell? ⟨g, i * 3, none⟩ = some (.int .i64 (kC (tk toks i).k)) := rowCell hgg htk t1
  have k2 : w.cell? ⟨g, i * 3 + 1, none⟩ = some (.string (tk toks i).t) := rowCell hgg htk t2
  have k3 : w.cell? ⟨g, i * 3 + 2, none⟩ = some (.int .i64 (tk toks i).a) := rowCell hgg htk t3
  clear h htk hgg t1 t2 t3
  unfold ptrV
  go_enter Tryz.func156, Tryz.ntmps156
  go_wp2
  go_region
  all_goals go_wp2
  exact bodyPost_ret (v := tokVC (tk toks i)) (by simp [results, Tryz.results156, go_sem, tokVC]) rfl ⟨rfl, rfl⟩
def stepI (toks : List Tok) (i : Nat) : Nat := if (tk toks i).k = 101 then i else i + 1
theorem boxed {w w1 : World} {cs : Array Value} {T : TypeId} (hb : Below (w.alloc (.cells cs T)).heap.size (w.alloc (.cells cs T)) w1) : w1.heap[w.heap.size]? = some (.cells cs T (0, 0)) :=
  (hb.block _ (by simp)).trans (heap_alloc_new w _)
theorem fz_of {w : World} {b : Nat} {cs : Array Value} {T : TypeId} (h : w.heap[b]? = some (.cells cs T (0, 0))) (j : Nat) : w.frozen? ⟨b, j, none⟩ = false := by simp [World.frozen?, h]
theorem below_box {w w1 : World} {o : Obj} (hb : Below (w.alloc o).heap.size (w.alloc o) w1) : Below w.heap.size w w1 :=
  ((Below.refl _ _).alloc (Nat.le_refl _) o).trans (hb.mono (by simp))
theorem take_c (h : RIn w bp toks lv vv i d vars vbs) (hg : GoodToks toks) (ht : TTs toks) :
    Calls Tryz.prog 225 #[ptrV bp] w fun e w' => e = .returned (tokVC (tk toks i)) ∧ RIn w' bp toks lv vv (stepI toks i) d vars vbs ∧ Fr bp vv vv w w' := by
  have hc1 := h.c1
  have f1 := h.fz 1
  have hlt := h.lt
  have hsm := hg.small
  have hbs := h.lt_size
  have HH := hide h
  have HN := hide (fun w' (h' : RIn w' bp toks lv vv i d vars vbs) => now_c h' hg)
  have hend := (ht i).kC_end
  have hnx := hg.next hlt
  have hsI : stepI toks i = if (tk toks i).k = 101 then i else i + 1 := rfl
  unfold ptrV tokVC tokB at *
  obtain ⟨t, hT⟩ : ∃ t, t = tk toks i := ⟨_, rfl⟩
  rw [← hT] at HN hend hnx hsI ⊢
  obtain ⟨K, hK⟩ : ∃ K, K = kC t.k := ⟨_, rfl⟩
  rw [← hK] at hend HN ⊢
  have HSI := hide hsI
  clear h hT hK hsI
  by_cases he : t.k = 101
  · have h4 : K = 4 := hend.2 he
    have HE := hide he
    clear hend hnx he
    go_enter Tryz.func225, Tryz.ntmps225
    go_wp2_with (go_at_call 156; refine (HN.out _ (HH.out.alloc _)).mono ?_; rintro e w1 ⟨rfl, rfl⟩)
    refine bodyPost_ret (v := .agg #[.int .i64 K, .string t.t, .int .i64 t.a]) (by simp [results, Tryz.results225, go_sem, h4]) rfl ⟨rfl, ?_, ?_⟩
    · rw [HSI.out, if_pos HE.out]
      exact (((HH.out.alloc _).alloc _).alloc _).drew
    · exact ((((Fr.refl _ _ _).alloc _).alloc _).alloc _).drew
  · have h4 : ¬ K = 4 := fun e => he (hend.1 e)
    have HE := hide he
    have hn := hnx he
    have hbs1 : bp < w.heap.size + 1 := by omega
    have hbs2 : bp < w.heap.size + 1 + 1 := by omega
    have a3 : ∀ o1 o2 o3, (((w.alloc o1).alloc o2).alloc o3).cell? ⟨bp, 1, none⟩ = some (.int .i64 i) := fun o1 o2 o3 => (((HH.out.alloc o1).alloc o2).alloc o3).c1
    have z3 : ∀ o1 o2 o3, (((w.alloc o1).alloc o2).alloc o3).frozen? ⟨bp, 1, none⟩ = false := fun o1 o2 o3 => (((HH.out.alloc o1).alloc o2).alloc o3).fz 1
    clear hend hnx he
    go_enter Tryz.func225, Tryz.ntmps225
    go_wp2_with (go_at_call 156; refine (HN.out _ (HH.out.alloc _)).mono ?_; rintro e w1 ⟨rfl, rfl⟩)
    refine bodyPost_ret (v := .agg #[.int .i64 K, .string t.t, .int .i64 t.a]) (by simp [results, Tryz.results225, go_sem]) rfl ⟨rfl, ?_, ?_⟩
    · rw [HSI.out, if_neg HE.out]
      exact ((((HH.out.setI (i + 1) hn).alloc _).alloc _).alloc _).drew
    · exact (((((Fr.refl _ _ _).setBp _ _).alloc _).alloc _).alloc _).drew
end
theorem tok_f0 (a b c : Value) (w : World) : (Instr.field 298 (.agg #[a, b, c]) 0).run Tryz.prog w = .ok a w := by
  simp [Instr.field, go_sem, part, asAgg]
theorem tok_f1 (a b c : Value) (w : World) : (Instr.field 298 (.agg #[a, b, c]) 1).run Tryz.prog w = .ok b w := by
  simp [Instr.field, go_sem, part, asAgg]
theorem tok_f2 (a b c : Value) (w : World) : (Instr.field 298 (.agg #[a, b, c]) 2).run Tryz.prog w = .ok c w := by
  simp [Instr.field, go_sem, part, asAgg]
theorem newFault_x (er a : Int) (w : World) :
    Calls Tryz.prog 154 #[.int .i64 er, .int .i64 a] w fun e w' => e = .returned (.agg #[.pointer (some ⟨w.heap.size + 1, 0, none⟩)]) ∧
      w' = (w.alloc (.cells #[.pointer (some ⟨w.heap.size + 1, 0, none⟩)] 290)).alloc (.cells #[.int .i64 er, .int .i64 a] 165) := by
  go_enter Tryz.func154, Tryz.ntmps154
  go_wp2
  exact bodyPost_ret (v := .agg #[.pointer (some ⟨w.heap.size + 1, 0, none⟩)]) (by simp [results, Tryz.results154, go_sem]) rfl ⟨rfl, rfl⟩
theorem heap_top (w : World) (o : Obj) {k : Nat} (h : w.heap.size = k) : (w.alloc o).drew.heap[k]? = some o := by
  subst h; exact heap_alloc_new w o
def RFault (er a : Int) (bp : Nat) (lv vv : Value) (d : Int) (w : World) (e : Ending) (w' : World) : Prop :=
  ∃ (g : Nat) (vv' : Value) (i' : Nat), w.heap.size ≤ g ∧ e = .panicked [{ v := faultV g, recovered := false }] ∧ w'.heap[g]? = some (atV er a) ∧ Fr bp vv vv' w w' ∧
    w'.heap[bp]? = some (.cells #[lv, .int .i64 i', .int .i64 d, vv'] 295 (0, 0))
theorem RFault.after {er a : Int} {bp : Nat} {lv vv vv1 : Value} {d : Int} {w w1 w' : World} {e : Ending} (h : RFault er a bp lv vv1 d w1 e w') (hf : Fr bp vv vv1 w w1) : RFault er a bp lv vv d w e w' := by
  obtain ⟨g, vv', i', h1, h2, h3, h4, h5⟩ := h
  exact ⟨g, vv', i', Nat.le_trans hf.size h1, h2, h3, hf.trans h4, h5⟩
section
variable {w : World} {bp : Nat} {toks : List Tok} {lv vv : Value} {i : Nat} {d : Int} {vars : List ByteArray} {vbs : List Nat}
theorem RIn.faulted {w' : World} {er a : Int} {g : Nat} (h : RIn w bp toks lv vv i d vars vbs) (hg : w.heap.size ≤ g) (hc : w'.heap[g]? = some (atV er a)) (hb : Below w.heap.size w w') :
    RFault er a bp lv vv d w (.panicked [{ v := faultV g, recovered := false }]) w' :=
  ⟨g, vv, i, hg, rfl, hc, Fr.of_below hb, (h.below hb).cells⟩
theorem takes_c (h : RIn w bp toks lv vv i d vars vbs) (hg : GoodToks toks) (ht : TTs toks) (s : ByteArray) :
    Calls Tryz.prog 201 #[ptrV bp, .string s] w fun e w' => e = .returned (.bool (decide ((tk toks i).t = s))) ∧ RIn w' bp toks lv vv (if (tk toks i).t = s then stepI toks i else i) d vars vbs ∧ Fr bp vv vv w w' := by
  have HH := hide h
  have HN := hide (fun w' (h' : RIn w' bp toks lv vv i d vars vbs) => now_c h' hg)
  have HT := hide (fun w' (h' : RIn w' bp toks lv vv i d vars vbs) => take_c h' hg ht)
  have ff0 := tok_f0
  have ff1 := tok_f1
  have ff2 := tok_f2
  unfold ptrV tokVC tokB at *
  obtain ⟨t, hT⟩ : ∃ t, t = tk toks i := ⟨_, rfl⟩
  rw [← hT] at HN HT ⊢
  clear hT h
  by_cases hq : t.t = s
  · have hq2 : (t.t.toList == s.toList) = true := by rw [hq]; simp
    have HQ := hide hq
    rw [if_pos hq, decide_eq_true hq]
    clear hq
    go_enter Tryz.func201, Tryz.ntmps201
    go_wp2_with (first | (go_at_call 156; refine (HN.out _ HH.out).mono ?_; rintro e w1 ⟨rfl, rfl⟩) | (go_at_call 225; refine (HT.out _ (HH.out.alloc _).drew).mono ?_; rintro e w2 ⟨rfl, hR, hF⟩))
    go_ret
    exact ⟨rfl, hR, ((Fr.refl _ _ _).alloc _).drew.trans hF⟩
  · have hq2 : (t.t.toList == s.toList) = false := by
      rw [beq_eq_false_iff_ne]; exact fun e => hq (BA_ext e)
    rw [if_neg hq, decide_eq_false hq]
    clear hq
    go_enter Tryz.func201, Tryz.ntmps201
    go_wp2_with (first | (go_at_call 156; refine (HN.out _ HH.out).mono ?_; rintro e w1 ⟨rfl, rfl⟩))
    go_ret
    exact ⟨rfl, (HH.out.alloc _).drew, ((Fr.refl _ _ _).alloc _).drew⟩
theorem misplaced_c (h : RIn w bp toks lv vv i d vars vbs) (hg : GoodToks toks) :
    Calls Tryz.prog 157 #[ptrV bp] w fun e w' => ∃ g, w.heap.size ≤ g ∧ e = .returned (.agg #[ptrV g]) ∧ w'.heap[g]? = some (atV 2 (tk toks i).a) ∧ Below w.heap.size w w' := by
  have HH := hide h
  have HN := hide (fun w' (h' : RIn w' bp toks lv vv i d vars vbs) => now_c h' hg)
  have HF := hide newFault_x
  have ff0 := tok_f0
  have ff1 := tok_f1
  have ff2 := tok_f2
  unfold ptrV tokVC tokB at *
  obtain ⟨t, hT⟩ : ∃ t, t = tk toks i := ⟨_, rfl⟩
  rw [← hT] at HN ⊢
  clear hT h
  go_enter Tryz.func157, Tryz.ntmps157
  go_wp2_with (first | (go_at_call 156; refine (HN.out _ (HH.out.alloc _)).mono ?_; rintro e w1 ⟨rfl, rfl⟩) | (go_at_call 154; refine (HF.out _ _ _).mono ?_; rintro e w2 ⟨rfl, rfl⟩))
  refine bodyPost_ret (v := .agg #[.pointer (some ⟨w.heap.size + 1 + 1 + 1, 0, none⟩)]) (by simp [results, Tryz.results157, go_sem]) rfl ⟨_, by omega, rfl, heap_top _ _ (by simp), ?_⟩
  exact (((((Below.refl _ _).alloc (Nat.le_refl _) _).alloc (by simp) _).alloc (by simp; omega) _).alloc (by simp; omega) _).drew
theorem must_c (h : RIn w bp toks lv vv i d vars vbs) (hg : GoodToks toks) (ht : TTs toks) (s : ByteArray) :
    Calls Tryz.prog 159 #[ptrV bp, .string s] w fun e w' =>
      ((tk toks i).t = s → e = .returned (.tuple #[]) ∧ RIn w' bp toks lv vv (stepI toks i) d vars vbs ∧ Fr bp vv vv w w') ∧
      ((tk toks i).t ≠ s → RFault 2 (tk toks i).a bp lv vv d w e w') := by
  have HT := hide (takes_c h hg ht s)
  have HM := hide (fun w' (h' : RIn w' bp toks lv vv i d vars vbs) => misplaced_c h' hg)
  unfold ptrV at *
  obtain ⟨t, hT⟩ : ∃ t, t = tk toks i := ⟨_, rfl⟩
  rw [← hT] at HT HM ⊢
  clear hT h
  by_cases hq : t.t = s
  · have HQ := hide hq
    rw [if_pos hq, decide_eq_true hq] at HT
    clear hq
    go_enter Tryz.func159, Tryz.ntmps159
    go_wp2_with (first | (go_at_call 201; refine HT.out.mono ?_; rintro e w1 ⟨rfl, hR, hF⟩))
    go_end0
    exact ⟨fun _ => ⟨rfl, hR, hF⟩, fun n => absurd HQ.out n⟩
  · have HQ := hide hq
    rw [if_neg hq, decide_eq_false hq] at HT
    clear hq
    go_enter Tryz.func159, Tryz.ntmps159
    go_wp2_with (first | (go_at_call 201; refine HT.out.mono ?_; rintro e w1 ⟨rfl, hR, hF⟩) | (go_at_call 157; refine (HM.out _ hR).mono ?_; rintro e w2 ⟨g, hg2, rfl, hcell, hB⟩))
    exact ⟨rfl, fun n => absurd n HQ.out, fun _ => (hR.faulted hg2 hcell hB).after hF⟩
theorem up_c {u : FrameMode} {B : Nat} (hd : 1 ≤ d) (hd8 : d ≤ 8) (hB : w.cell? ⟨B, 0, none⟩ = some (ptrV bp)) (hc : w.cell? ⟨bp, 2, none⟩ = some (.int .i64 d)) (hf : w.frozen? ⟨bp, 2, none⟩ = false) :
    CallsD Tryz.prog 288 #[.pointer (some ⟨B, 0, none⟩)] u w fun e u' w' => u' = u ∧ (e = .returned (.tuple #[]) ∧ w' = w.setCell ⟨bp, 2, none⟩ (.int .i64 (d - 1))) := by
  unfold ptrV at hB
  go_enter_d Tryz.func288, Tryz.ntmps288
  go_wp2
  go_end0
  exact ⟨rfl, rfl⟩
theorem down_c (h : RIn w bp toks lv vv i d vars vbs) (hg : GoodToks toks) (hd0 : 0 ≤ d) (hd8 : d ≤ 8) :
    Calls Tryz.prog 243 #[ptrV bp] w fun e w' =>
      (d = 8 → RFault 4 (tk toks i).a bp lv vv d w e w') ∧
      (d ≠ 8 → ∃ B, w.heap.size ≤ B ∧ e = .returned (.func (.func 288) #[] #[.pointer (some ⟨B, 0, none⟩)]) ∧ w'.heap[B]? = some (.cells #[ptrV bp] 209 (0, 0)) ∧ RIn w' bp toks lv vv i (d + 1) vars vbs ∧ Fr bp vv vv w w') := by
  have hmf : ∀ (fn : Fn) (first cap : Array Value) (w : World), (Instr.makeFunc fn first cap).run Tryz.prog w = .ok (.func fn first cap) w := fun _ _ _ _ => rfl
  have HH := hide h
  have hc2 := h.c2
  have f2 := h.fz 2
  have hbs := h.lt_size
  have HN := hide (fun w' (h' : RIn w' bp toks lv vv i d vars vbs) => now_c h' hg)
  have HF := hide newFault_x
  have ff0 := tok_f0
  have ff1 := tok_f1
  have ff2 := tok_f2
  have a1 : ∀ o1, (w.alloc o1).cell? ⟨bp, 2, none⟩ = some (.int .i64 d) := fun o1 => (HH.out.alloc o1).c2
  have z1 : ∀ o1, (w.alloc o1).frozen? ⟨bp, 2, none⟩ = false := fun o1 => (HH.out.alloc o1).fz 2
  unfold ptrV tokVC tokB at *
  obtain ⟨t, hT⟩ : ∃ t, t = tk toks i := ⟨_, rfl⟩
  rw [← hT] at HN ⊢
  clear hT h
  by_cases h8 : d = 8
  · go_enter Tryz.func243, Tryz.ntmps243
    go_wp2_with (first | (go_at_call 156; refine (HN.out _ (HH.out.alloc _)).mono ?_; rintro e w1 ⟨rfl, rfl⟩) | (go_at_call 154; refine (HF.out _ _ _).mono ?_; rintro e w2 ⟨rfl, rfl⟩))
    exact ⟨rfl, fun _ => HH.out.faulted (by omega) (heap_top _ _ (by simp)) (((((Below.refl _ _).alloc (Nat.le_refl _) _).alloc (by simp) _).alloc (by simp; omega) _).alloc (by simp; omega) _).drew, fun n => absurd h8 n⟩
  · go_enter Tryz.func243, Tryz.ntmps243
    go_wp2_with (first | (go_at_call 156; refine (HN.out _ (HH.out.alloc _)).mono ?_; rintro e w1 ⟨rfl, rfl⟩) | (go_at_call 154; refine (HF.out _ _ _).mono ?_; rintro e w2 ⟨rfl, rfl⟩))
    go_ret
    have hz : (w.setCell ⟨bp, 2, none⟩ (.int .i64 (d + 1))).heap.size = w.heap.size := by simp [World.setCell]
    exact ⟨fun e => absurd e h8, fun _ => ⟨w.heap.size, Nat.le_refl _, rfl, by have := heap_alloc_new (w.setCell ⟨bp, 2, none⟩ (.int .i64 (d + 1))) (.cells #[.pointer (some ⟨bp, 0, none⟩)] 209); rwa [hz] at this, (HH.out.setD (d + 1)).alloc _, ((Fr.refl _ _ _).setBp _ _).alloc _⟩⟩
end
mutual
inductive TRep (w : World) (Ok : Nat → Prop) (vbs : List Nat) : Ex → Value → Prop
  | atom (n : ByteArray) : TRep w Ok vbs (.atom n) (.iface 338 (.string n))
  | num (v : Int) : TRep w Ok vbs (.num v) (.iface 339 (.int .i64 v))
  | var (k b : Nat) (hk : vbs[k]? = some b) : TRep w Ok vbs (.var k) (.iface 267 (ptrV b))
  | cmp (n : ByteArray) (args : List Ex) (g ga cap : Nat) (cur : Array Value) (us : List Value) (hg : w.heap[g]? = some (.cells #[.string n, .slice (some ⟨ga, 0, none⟩) args.length cap, .slice none 0 0, .map none] 399 (0, 0)))
      (ho : Ok ga) (ha : w.heap[ga]? = some (.cells cur 185 (0, 0))) (hc : args.length ≤ cap) (hm : cap ≤ maxLen) (hs : cur.size = cap) (hu : cur.toList.take args.length = us) (hr : TRepL w Ok vbs args us) (hl : 0 < args.length) :
      TRep w Ok vbs (.cmp n args) (.iface 342 (ptrV g))
inductive TRepL (w : World) (Ok : Nat → Prop) (vbs : List Nat) : List Ex → List Value → Prop
  | nil : TRepL w Ok vbs [] []
  | cons (x : Ex) (l : List Ex) (u : Value) (us : List Value) : TRep w Ok vbs x u → TRepL w Ok vbs l us → TRepL w Ok vbs (x :: l) (u :: us)
end
def TKeeps (Ok : Nat → Prop) (w w' : World) : Prop := ∀ (b : Nat) (cs : Array Value) (T : TypeId), (T = 399 ∨ (T = 185 ∧ Ok b)) → w.heap[b]? = some (.cells cs T (0, 0)) → w'.heap[b]? = some (.cells cs T (0, 0))
mutual
theorem TRep.frame {w w' : World} {Ok Ok' : Nat → Prop} {vbs vbs' : List Nat} (hf : TKeeps Ok w w') (ho : ∀ b, Ok b → b < w.heap.size → Ok' b) (hv : vbs <+: vbs') : ∀ {x : Ex} {u : Value}, TRep w Ok vbs x u → TRep w' Ok' vbs' x u
  | _, _, .atom n => .atom n
  | _, _, .num v => .num v
  | _, _, .var k b hk => .var k b (by
      obtain ⟨r, rfl⟩ := hv
      rw [List.getElem?_append_left (List.getElem?_eq_some_iff.1 hk).1]; exact hk)
  | _, _, .cmp n args g ga cap cur us hg hq ha hc hm hs hu hr hl =>
    .cmp n args g ga cap cur us (hf g _ _ (.inl rfl) hg) (ho ga hq (Array.getElem?_eq_some_iff.1 ha).1) (hf ga _ _ (.inr ⟨rfl, hq⟩) ha) hc hm hs hu (TRepL.frame hf ho hv hr) hl
theorem TRepL.frame {w w' : World} {Ok Ok' : Nat → Prop} {vbs vbs' : List Nat} (hf : TKeeps Ok w w') (ho : ∀ b, Ok b → b < w.heap.size → Ok' b) (hv : vbs <+: vbs') : ∀ {l : List Ex} {us : List Value}, TRepL w Ok vbs l us → TRepL w' Ok' vbs' l us
  | _, _, .nil => .nil
  | _, _, .cons x l u us hx hl => .cons x l u us (TRep.frame hf ho hv hx) (TRepL.frame hf ho hv hl)
end
theorem TRep.mono {w : World} {Ok Ok' : Nat → Prop} {vbs : List Nat} {x : Ex} {u : Value} (h : TRep w Ok vbs x u) (ho : ∀ b, Ok b → b < w.heap.size → Ok' b) : TRep w Ok' vbs x u :=
  h.frame (fun _ _ _ _ hb => hb) ho (List.prefix_refl _)
theorem TRepL.snoc {w : World} {Ok : Nat → Prop} {vbs : List Nat} : ∀ {l : List Ex} {us : List Value} {x : Ex} {u : Value}, TRepL w Ok vbs l us → TRep w Ok vbs x u → TRepL w Ok vbs (l ++ [x]) (us ++ [u])
  | _, _, x, u, .nil, h => .cons x [] u [] h .nil
  | _, _, x, u, .cons y l c d hy hl, h => .cons y (l ++ [x]) c (d ++ [u]) hy (TRepL.snoc hl h)
theorem TRepL.len {w : World} {Ok : Nat → Prop} {vbs : List Nat} : ∀ {l : List Ex} {us : List Value}, TRepL w Ok vbs l us → us.length = l.length
  | _, _, .nil => rfl
  | _, _, .cons x l u us hx hl => by simp [TRepL.len hl]
theorem TRep.form {w : World} {Ok : Nat → Prop} {vbs : List Nat} {x : Ex} {u : Value} (h : TRep w Ok vbs x u) : ∃ t v, u = .iface t v ∧ u.oneCell' = true := by
  cases h <;> exact ⟨_, _, rfl, rfl⟩
theorem conv_c (s : ByteArray) (w : World) : ∃ (C : Array Value) (cap : Nat) (fz : Nat × Nat), (∀ k (hk : k < s.size), C[k]? = some (.int .u8 s[k].toNat)) ∧
    (convert 9 115 (.string s)).run Tryz.prog w = .ok (.slice (some ⟨w.heap.size, 0, none⟩) s.size cap) (w.alloc (.cells C 5 fz)).drew := by
  refine ⟨_, _, _, fun k hk => ?_, run_bytes_of_string (P := Tryz.prog) w 9 115 5 s Tryz.underlying9 Tryz.underlying115 Tryz.underlying5⟩
  unfold bytesRow
  rw [Array.getElem?_append_left (by simpa using hk)]
  have : k < s.data.size := hk
  simp
  exact ⟨s[k], Array.getElem?_eq_getElem this, rfl⟩
section
variable {w : World} {bp : Nat} {toks : List Tok} {lv vv : Value} {i : Nat} {d : Int} {vars : List ByteArray} {vbs : List Nat}
theorem RIn.tkeeps {w' : World} {vv' : Value} {Ok : Nat → Prop} (h : RIn w bp toks lv vv i d vars vbs) (hf : Fr bp vv vv' w w') : TKeeps Ok w w' := by
  intro b cs T hT0 hb
  have hT : T = 399 ∨ T = 185 := hT0.elim .inl (fun h => .inr h.1)
  clear hT0
  rw [hf.block b (Array.getElem?_eq_some_iff.1 hb).1 ?_ ?_]
  · exact hb
  · rintro rfl
    rw [h.cells] at hb
    injection hb with hb; injection hb with _ hb
    rcases hT with rfl | rfl <;> cases hb
  · intro hv
    rcases h.vrow.2 with ⟨hl, _⟩ | ⟨g, cap, cur, rfl, _, r2, _⟩
    · rw [hl] at hv; cases hv
    · cases hv
      rw [r2] at hb
      injection hb with hb; injection hb with _ hb
      rcases hT with rfl | rfl <;> cases hb
theorem number_c (h : RIn w bp toks lv vv i d vars vbs) (hg : GoodToks toks) (ht : TTs toks) (fac : Int) (hfac : fac = 1 ∨ fac = -1) :
    Calls Tryz.prog 276 #[ptrV bp, .int .i64 fac] w fun e w' =>
      ((tk toks i).k = 110 → e = .returned (.iface 339 (.int .i64 (fac * digVal (tk toks i).t.data.toList))) ∧ RIn w' bp toks lv vv (i + 1) d vars vbs ∧ Fr bp vv vv w w') ∧
      ((tk toks i).k ≠ 110 → RFault 2 (tk toks i).a bp lv vv d w e w') := by
  have HH := hide h
  have HN := hide (fun w' (h' : RIn w' bp toks lv vv i d vars vbs) => now_c h' hg)
  have HT := hide (fun w' (h' : RIn w' bp toks lv vv i d vars vbs) => take_c h' hg ht)
  have HM := hide (fun w' (h' : RIn w' bp toks lv vv i d vars vbs) => misplaced_c h' hg)
  have hkn := (ht i).kC_num
  have hgn := hg.num i
  have hst : stepI toks i = if (tk toks i).k = 101 then i else i + 1 := rfl
  have ff0 := tok_f0
  have ff1 := tok_f1
  have ff2 := tok_f2
  unfold ptrV tokVC tokB at *
  obtain ⟨t, hT⟩ : ∃ t, t = tk toks i := ⟨_, rfl⟩
  rw [← hT] at HN HT HM hkn hgn hst ⊢
  clear hT h
  obtain ⟨K, hK⟩ : ∃ K, K = kC t.k := ⟨_, rfl⟩
  rw [← hK] at hkn HN HT
  clear hK
  by_cases hk : t.k = 110
  · have h2 : K = 2 := hkn.2 hk
    obtain ⟨hsz, hdig⟩ := hgn hk
    rw [if_neg (by rw [hk]; decide)] at hst
    rw [hst] at HT
    have HK := hide hk
    clear hkn hgn hk hst
    go_enter Tryz.func276, Tryz.ntmps276
    go_wp2_with (first | (go_at_call 156; refine (HN.out _ HH.out).mono ?_; rintro e w1 ⟨rfl, rfl⟩) | (go_at_call 225; refine (HT.out _ (HH.out.alloc _).drew).mono ?_; rintro e w2 ⟨rfl, hR, hF⟩; obtain ⟨C, cap, fz, hC, hcv⟩ := conv_c t.t w2))
    go_loop [5, 20] (fun v j => ∃ k : Nat, k ≤ t.t.size ∧ j = .int .i64 k ∧ v = .int .i64 (digVal (t.t.data.toList.take k))) (fun _ j => t.t.size - (intOf j).toNat)
    case atStart => exact ⟨0, Nat.zero_le _, rfl, rfl⟩
    case round =>
      obtain ⟨k, hk, rfl, rfl⟩ := hrel
      have hb := digVal_bound (t.t.data.toList.take k) (fun c hc => hdig c (List.mem_of_mem_take hc))
      have hp := pow_le9 (t.t.data.toList.take k).length (by have := List.length_take_le k t.t.data.toList; omega)
      have hb1 : digVal (t.t.data.toList.take k) < 1000000000 := by omega
      obtain ⟨hb0, _⟩ := hb
      by_cases hlt : k < t.t.size
      · have hCk : (w2.alloc (.cells C 5 fz)).cell? ⟨w2.heap.size, k, none⟩ = some (.int .u8 t.t[k].toNat) := by rw [cell_of_row _ _ _ C _ fz (heap_alloc_new w2 _)]; exact hC k hlt
        have hsn := digVal_snoc (t.t.data.toList.take k) t.t[k]
        have hts := take_snoc t.t k hlt
        have hc := hdig t.t[k] (by show t.t.data[k] ∈ _; simp)
        obtain ⟨hc1, hc2⟩ := hc
        have HS : Hid (digVal (t.t.data.toList.take (k + 1)) = 10 * digVal (t.t.data.toList.take k) + ((t.t[k].toNat : Int) - 48)) := by rw [hts]; exact hsn
        clear hsn hts hp hC
        obtain ⟨X, hX⟩ : ∃ X, X = digVal (t.t.data.toList.take k) := ⟨_, rfl⟩
        rw [← hX] at hb0 hb1 HS ⊢
        clear hX
        obtain ⟨Y, hY⟩ : ∃ Y, Y = t.t[k].toNat := ⟨_, rfl⟩
        rw [← hY] at hc1 hc2 HS hCk
        clear hY
        go_wp2
        go_round
        case rel => exact ⟨k + 1, by omega, by go_num, by rw [HS.out]; go_num⟩
        case measure => simp [intOf]; omega
      · have HE : Hid (t.t.data.toList.take k = t.t.data.toList) := List.take_of_length_le (by simp; omega)
        rw [HE.out] at hb0 hb1 ⊢
        clear hp
        rcases hfac with rfl | rfl
        · go_wp2
          go_ret
          exact ⟨fun _ => ⟨rfl, (hR.alloc _).drew, ((((Fr.refl _ _ _).alloc _).drew.trans hF).alloc _).drew⟩, fun n => absurd HK.out n⟩
        · go_wp2
          go_ret
          exact ⟨fun _ => ⟨rfl, (hR.alloc _).drew, ((((Fr.refl _ _ _).alloc _).drew.trans hF).alloc _).drew⟩, fun n => absurd HK.out n⟩
  · have h2 : ¬ K = 2 := fun e => hk (hkn.1 e)
    have HK := hide hk
    clear hkn hgn hk hst
    go_enter Tryz.func276, Tryz.ntmps276
    go_wp2_with (first | (go_at_call 156; refine (HN.out _ HH.out).mono ?_; rintro e w1 ⟨rfl, rfl⟩) | (go_at_call 157; refine (HM.out _ (HH.out.alloc _).drew).mono ?_; rintro e w2 ⟨g, hg2, rfl, hcell, hB⟩))
    exact ⟨rfl, fun n => absurd n HK.out, fun _ => ((HH.out.alloc _).drew.faulted hg2 hcell hB).after ((Fr.refl _ _ _).alloc _).drew⟩
end
theorem Tryz.infoPV : (Tryz.prog.info? 267).map (fun i => (i.zero, i.size, i.bytes)) = some (some (.pointer none), 1, 8) := by kernel_rfl
theorem Tryz.underlyingPVs : Tryz.prog.underlying 226 = some (.slice 267) := by kernel_rfl
section
variable {w : World} {bp : Nat} {toks : List Tok} {lv vv : Value} {i : Nat} {d : Int} {vars : List ByteArray} {vbs : List Nat}
def RPost (toks : List Tok) (bp : Nat) (lv vv : Value) (d : Int) (vbs : List Nat) (w : World) (r : R Ex) (e : Ending) (w' : World) : Prop :=
  match r with
  | .error (er, a) => RFault er a bp lv vv d w e w'
  | .ok (x, st) => ∃ (u vv' : Value) (vbs' : List Nat), e = .returned u ∧ TRep w' (fun b => w.heap.size ≤ b) vbs' x u ∧ RIn w' bp toks lv vv' st.1 d st.2 vbs' ∧ vbs <+: vbs' ∧ Fr bp vv vv' w w'
theorem RPost.okI {w' : World} {r : R Ex} {x : Ex} {st : St} {u vv' : Value} {vbs' : List Nat} (hr : r = .ok (x, st)) (h1 : TRep w' (fun b => w.heap.size ≤ b) vbs' x u) (h2 : RIn w' bp toks lv vv' st.1 d st.2 vbs') (h3 : vbs <+: vbs') (h4 : Fr bp vv vv' w w') :
    RPost toks bp lv vv d vbs w r (.returned u) w' := by subst hr; exact ⟨u, vv', vbs', rfl, h1, h2, h3, h4⟩
theorem RPost.errI {w' : World} {r : R Ex} {er : Int} {a : Nat} {e : Ending} (hr : r = .error (er, a)) (h : RFault er a bp lv vv d w e w') : RPost toks bp lv vv d vbs w r e w' := by subst hr; exact h
theorem varOf_hit {t : Tok} {k j : Nat} (h : findVar vars t.t = some k) : varOf t (j, vars) = .ok (.var k, (j, vars)) := by unfold varOf; simp only [h]
theorem varOf_full {t : Tok} {j : Nat} (h : findVar vars t.t = none) (h12 : vars.length = 12) : varOf t (j, vars) = .error (4, t.a) := by unfold varOf; simp only [h, h12, if_true]
theorem varOf_new {t : Tok} {j : Nat} (h : findVar vars t.t = none) (h12 : ¬ vars.length = 12) : varOf t (j, vars) = .ok (.var vars.length, (j, vars ++ [t.t])) := by unfold varOf; simp only [h, h12, if_false]
theorem grown_blk {wc w2 : World} {b : Nat} {vv : Value} {o : Obj} {x : Obj} (h : wc.heap[b]? = some x) (hg : (wc.alloc o).grownBy w2 vv.ownBlock) (hv : vv.ownBlock ≠ some b) : w2.heap[b]? = some x := by
  have hlt := (Array.getElem?_eq_some_iff.1 h).1
  rw [hg.block b (by simp; omega) (fun e => hv e.symm), Below.heap_alloc _ _ _ hlt]; exact h
theorem RIn.vv_ne (h : RIn w bp toks lv vv i d vars vbs) {b : Nat} {cs : Array Value} (hb : w.heap[b]? = some (.cells cs 269 (0, 0))) : vv.ownBlock ≠ some b := by
  intro e
  rcases h.vrow.2 with ⟨hl, _⟩ | ⟨g, cap, cur, rfl, _, r2, _⟩
  · rw [hl] at e; cases e
  · cases e
    rw [r2] at hb
    injection hb with hb; injection hb with _ hb; cases hb
theorem RIn.grow {w2 : World} {v' : Value} {o : Obj} {t : ByteArray} {b : Nat} (h : RIn w bp toks lv vv i d vars vbs) (hvb : w.heap[b]? = some (.cells #[.string t, .int .i64 vars.length, .nilIface, .int .i64 0] 269 (0, 0))) (hnew : b ∉ vbs)
    (hg : (w.alloc o).grownBy w2 vv.ownBlock) (hn : ∀ b, v'.ownBlock = some b → vv.ownBlock = some b ∨ (w.alloc o).heap.size ≤ b)
    (ho : w2.ownsRow 0 267 1 v' (vbs.length + 1) (vbs.map ptrV ++ [ptrV b])) (hl : vars.length < 12) :
    RIn (w2.setCell ⟨bp, 3, none⟩ v') bp toks lv v' i d (vars ++ [t]) (vbs ++ [b]) ∧ Fr bp vv v' w (w2.setCell ⟨bp, 3, none⟩ v') := by
  have hne : ∀ b, b ≠ bp → (w2.setCell ⟨bp, 3, none⟩ v').heap[b]? = w2.heap[b]? := fun b hb => Below.heap_setCell _ _ _ _ hb
  have hc := grown_blk h.cells hg h.vb
  have hsz : w.heap.size < (w.alloc o).heap.size := by simp
  have hvb' : v'.ownBlock ≠ some bp := fun e => (hn bp e).elim h.vb (fun q => by have := h.lt_size; omega)
  have hblk : ∀ (c : Nat) (n : Array Value), w.heap[c]? = some (.cells n 269 (0, 0)) → (w2.setCell ⟨bp, 3, none⟩ v').heap[c]? = some (.cells n 269 (0, 0)) := fun c n hcn => by
    rw [hne c (fun e => by rw [e, h.cells] at hcn; cases hcn)]
    exact grown_blk hcn hg (h.vv_ne hcn)
  refine ⟨⟨?_, ?_, ?_, h.lb, hvb', ?_, h.lt, by simp [h.vl], by simp; omega, ?_, ?_⟩, ?_⟩
  · rw [heap_setCell_same hc]; rfl
  · refine ownsRow_keep (w := w) h.l fun b e => ?_
    rw [hne b (fun q => h.lb (by rw [← q]; exact e))]
    have hlt := (h.l.lt b e).2
    rw [hg.block b (by simp; omega) (fun q => ?_), Below.heap_alloc _ _ _ hlt]
    rcases h.lvb with x | x
    · rw [x] at q; cases q
    · exact x (by rw [e, ← q])
  · have h2 : w2.ownsRow 0 267 1 v' (vbs ++ [b]).length ((vbs ++ [b]).map ptrV) := by simpa using ho
    exact ownsRow_keep h2 fun c e => hne c (fun q => hvb' (by rw [← q]; exact e))
  · by_cases hn0 : v'.ownBlock = none
    · exact .inl hn0
    · right
      intro e
      cases hb : v'.ownBlock with
      | none => exact hn0 hb
      | some b =>
        rcases hn b hb with q | q
        · rcases h.lvb with x | x
          · rw [x] at q; cases q
          · exact x (by rw [e, hb, q])
        · have := h.blt b (.inr (.inl (by rw [e, hb]))); omega
  · intro k c hk
    by_cases hlt : k < vbs.length
    · rw [List.getElem?_append_left hlt] at hk
      obtain ⟨n, h1, h2⟩ := h.vblk k c hk
      exact ⟨n, by rw [List.getElem?_append_left (by rw [← h.vl]; exact hlt)]; exact h1, hblk c _ h2⟩
    · have hk2 : k = vbs.length := by
        have := (List.getElem?_eq_some_iff.1 hk).1
        simp at this; omega
      subst hk2
      rw [List.getElem?_append_right (Nat.le_refl _)] at hk
      simp at hk
      subst hk
      exact ⟨t, by rw [h.vl, List.getElem?_append_right (Nat.le_refl _)]; simp, by rw [h.vl]; exact hblk b _ hvb⟩
  · rw [List.nodup_append]
    exact ⟨h.nodup, by simp, by intro a ha c hc; simp at hc; subst hc; exact fun e => hnew (by rw [← e]; exact ha)⟩
  · refine ⟨hg.os, hg.tape, hg.output, by have := hg.size; simp [World.setCell] at this ⊢; omega, fun c hb1 h1 h2 => ?_, fun b hb1 => (hn b hb1).elim .inl (fun q => .inr (by omega))⟩
    rw [hne c h1, hg.block c (by simp; omega) (fun e => h2 e.symm), Below.heap_alloc _ _ _ hb1]
theorem pvCell (h : RIn w bp toks lv vv i d vars vbs) (k : Nat) (hk : k < vars.length) :
    ∃ g cap b, vv = .slice (some ⟨g, 0, none⟩) vbs.length cap ∧ vbs[k]? = some b ∧ w.cell? ⟨g, k, none⟩ = some (.pointer (some ⟨b, 0, none⟩)) ∧ w.cell? ⟨b, 0, none⟩ = some (.string vars[k]) ∧ vbs.length ≤ cap ∧ cap ≤ maxLen := by
  have hk' : k < vbs.length := by rw [h.vl]; exact hk
  rcases h.vrow.2 with ⟨_, h0⟩ | ⟨g, cap, cur, rfl, _, hgg, hcap, hmx, hsz, htk⟩
  · omega
  · obtain ⟨n, h1, h2⟩ := h.vblk k _ (List.getElem?_eq_getElem hk')
    refine ⟨g, cap, vbs[k], rfl, List.getElem?_eq_getElem hk', rowCell hgg htk (by simp [hk', ptrV]), ?_, hcap, hmx⟩
    rw [cell_of_block h2]
    rw [List.getElem?_eq_getElem hk] at h1
    cases h1; rfl
theorem tok_box {w1 wr : World} {t : Tok} (hb : Below (w1.alloc (tokB t)).heap.size (w1.alloc (tokB t)) wr) :
    wr.cell? ⟨w1.heap.size, 1, none⟩ = some (.string t.t) ∧ wr.cell? ⟨w1.heap.size, 2, none⟩ = some (.int .i64 t.a) := by
  have h1 := boxed hb
  exact ⟨by rw [cell_of_block h1]; rfl, by rw [cell_of_block h1]; rfl⟩
theorem variable_c (h : RIn w bp toks lv vv i d vars vbs) (hg : GoodToks toks) (ht : TTs toks) (hk118 : (tk toks i).k = 118) :
    Calls Tryz.prog 277 #[ptrV bp] w fun e w' => RPost toks bp lv vv d vbs w (varOf (tk toks i) (i + 1, vars)) e w' := by
  have HT := hide (take_c h hg ht)
  have HF := hide newFault_c
  have hst : stepI toks i = i + 1 := by unfold stepI; rw [if_neg (by rw [hk118]; decide)]
  rw [hst] at HT
  have ff0 := tok_f0
  have ff1 := tok_f1
  have ff2 := tok_f2
  obtain ⟨t, hT⟩ : ∃ t, t = tk toks i := ⟨_, rfl⟩
  rw [← hT] at HT ⊢
  clear hT h hst hk118
  unfold ptrV tokVC at *
  go_enter Tryz.func277, Tryz.ntmps277
  go_upto_block 0 with (first | (go_at_call 225; refine HT.out.mono ?_; rintro e w1 ⟨rfl, hR, hF⟩; have c3 := hR.c3; have hz1 := hR.lt_size; obtain ⟨ao, cp, hvf⟩ := row_form hR.vrow))
  obtain ⟨W0, hW0⟩ : ∃ W0, W0 = w1.alloc (tokB t) := ⟨_, rfl⟩
  unfold tokB at hW0
  rw [← hW0]
  have hR0 : RIn W0 bp toks lv vv (i + 1) d vars vbs := by rw [hW0]; exact hR.alloc _
  have hF0 : Fr bp vv vv w W0 := by rw [hW0]; exact hF.alloc _
  have HW0 := hide hW0
  clear hW0 c3
  go_wp2_with fail
  go_loopg [14] vars.length (fun g j wr => ∃ k : Nat, k + g = vars.length ∧ j = .int .i64 k ∧ (∀ j (hj : j < vars.length), j < k → ¬ (vars[j] = t.t ∧ t.t ≠ B [95])) ∧ Below W0.heap.size W0 wr)
  case atStart => exact ⟨0, by omega, rfl, fun _ _ h => absurd h (by omega), Below.refl _ _⟩
  case round =>
    obtain ⟨k, hkg, rfl, hno, hb⟩ := hrel
    have hP : RIn wr bp toks lv vv (i + 1) d vars vbs := hR0.below hb
    obtain ⟨e1, e2⟩ : wr.cell? ⟨w1.heap.size, 1, none⟩ = some (.string t.t) ∧ wr.cell? ⟨w1.heap.size, 2, none⟩ = some (.int .i64 t.a) := by
      rw [HW0.out] at hb; exact tok_box (t := t) hb
    have HNO := hide hno
    clear hno
    have hvl1 := Nat.le_of_eq hP.vl
    have hvl2 := Nat.le_of_eq hP.vl.symm
    have hv12 := hP.v12
    by_cases hlt : k < vars.length
    · obtain ⟨g, cap, b, hvv, hbk, hc1, hc2, hcap, hmx⟩ := pvCell hP k hlt
      have HBK := hide hbk
      clear hbk
      rw [hvf] at hvv
      cases hvv
      cases heq : (vars[k].toList == t.t.toList) with
      | true =>
        cases hus : (t.t.toList == [95]) with
        | false =>
          have HFd : Hid (findVar vars t.t = some k) := findVar_hit hlt (fun j hj hjk e => HNO.out j hj hjk ⟨e, us_ne hus⟩) (us_ne hus) (BA_ext (by simpa using heq))
          go_wp2_with fail
          go_quiet (fail)
          go_wp2_with fail
          go_ret
          have hbw := below_drewN hb nq
          exact .okI (varOf_hit HFd.out) (.var k b HBK.out) (hR0.below hbw) (List.prefix_refl _) (hF0.trans (Fr.of_below hbw))
        | true =>
          have HUS := hide (us_eq hus)
          go_wp2_with fail
          go_quiet (fail)
          go_wp2_with fail
          go_roundg (gk - 1)
          case measure => omega
          case rel =>
            refine ⟨k + 1, by omega, by go_num, fun j hj hjk => ?_, below_drewN hb nq⟩
            exact fun h => h.2 HUS.out
      | false =>
        have HNE : Hid (¬ vars[k] = t.t) := by intro e; rw [e] at heq; simp at heq
        go_wp2_with fail
        go_quiet (fail)
        go_wp2_with fail
        go_roundg (gk - 1)
        case measure => omega
        case rel =>
          refine ⟨k + 1, by omega, by go_num, fun j hj hjk => ?_, below_drewN hb nq⟩
          by_cases ejk : j = k
          · subst ejk; exact fun h => HNE.out h.1
          · exact HNO.out j hj (by omega)
    · have HFn : Hid (findVar vars t.t = none) := findVar_none (by
        by_cases hu : t.t = B [95]
        · exact .inl hu
        · exact .inr fun j hj e => HNO.out j hj (by omega) ⟨e, hu⟩)
      have c3 := hP.c3
      have z3 := hP.fz 3
      have hz := hP.lt_size
      have hc := hP.cells
      have HC := hide hc
      have hv12 := hP.v12
      have hrow := hP.vrow
      clear hc
      by_cases h12 : vars.length = 12
      · rw [hvf] at c3
        go_wp2_with (first | (go_at_call 154; refine (HF.out _ _ _).mono ?_; rintro e w2 ⟨g, hg2, rfl, hcell, hB⟩))
        exact ⟨rfl, .errI (varOf_full HFn.out h12) ((hP.faulted hg2 hcell hB).after (hF0.trans (Fr.of_below hb)))⟩
      · obtain ⟨i0, hi, hz0, hz1', hz2⟩ := info_parts Tryz.infoPV
        subst hvf
        have c3' : ∀ o, (wr.alloc o).cell? ⟨bp, 3, none⟩ = some (.slice ao vbs.length cp) := fun o => (hP.alloc o).c3
        have e1' : ∀ o, (wr.alloc o).cell? ⟨w1.heap.size, 1, none⟩ = some (.string t.t) := fun o => by
          rw [World.cell?_alloc_past _ _ _ (World.block_lt_of_cell? _ _ e1)]; exact e1
        go_wp2_with fail
        go_region
        go_wp2_with (first | (at_builtin; go_must (refine wpList_append_own2 rfl _ _ 226 rfl 0 267 i0 (.pointer none) 1 8 Tryz.underlyingPVs hi hz0 hz1' hz2 rfl (by decide) (.slice ao vbs.length cp) _ _ rfl (ownsRow_keep ((hrow.alloc (.cells #[.string t.t, .int .i64 vbs.length, .nilIface, .int .i64 0] 269)).alloc (.cells #[.pointer (some ⟨wr.heap.size, 0, none⟩)] 267)) (fun _ _ => rfl)) _ 1 1 [.pointer (some ⟨wr.heap.size, 0, none⟩)] rfl rfl ?c1 ?c2 ?c3 ?c4 ?c5 ?_)))
        case c1 => have := cell_one_new (wr.alloc (.cells #[.string t.t, .int .i64 vbs.length, .nilIface, .int .i64 0] 269)).drew (.pointer (some ⟨wr.heap.size, 0, none⟩)) 267; rwa [show (wr.alloc (.cells #[.string t.t, .int .i64 vbs.length, .nilIface, .int .i64 0] 269)).drew.heap.size = wr.heap.size + 1 from World.size_alloc _ _] at this
        case c2 => intro u hu; simp at hu; subst hu; rfl
        case c3 => unfold maxLen; omega
        case c4 => omega
        case c5 => omega
        intro v' w2 ho hgr hnw
        have hPv := (hP.alloc (.cells #[.string t.t, .int .i64 vbs.length, .nilIface, .int .i64 0] 269)).drew
        have hvb : (wr.alloc (.cells #[.string t.t, .int .i64 vbs.length, .nilIface, .int .i64 0] 269)).drew.heap[wr.heap.size]? = _ := heap_alloc_new wr (.cells #[.string t.t, .int .i64 vbs.length, .nilIface, .int .i64 0] 269)
        have hnew : wr.heap.size ∉ vbs := fun m => absurd (hP.vb_ne m).2 (Nat.lt_irrefl _)
        have hgr' : ((wr.alloc (.cells #[.string t.t, .int .i64 vbs.length, .nilIface, .int .i64 0] 269)).drew.alloc (.cells #[.pointer (some ⟨wr.heap.size, 0, none⟩)] 267)).grownBy w2 (Value.slice ao vbs.length cp).ownBlock := hgr
        have hcb := grown_blk hPv.cells hgr' hPv.vb
        have zc : w2.cell? ⟨bp, 3, none⟩ = some (.slice ao vbs.length cp) := by rw [cell_of_block hcb]; rfl
        have zf := fz_of hcb 3
        have HGR := hide (hPv.grow (t := t.t) (v' := v') (by rw [hvb, hP.vl]) hnew hgr' (by simpa using hnw) ho (by omega))
        have hlen : vbs[vars.length]? = none := List.getElem?_eq_none (by omega)
        obtain ⟨ao', cap', rfl⟩ := row_form ho
        clear hcb hvb hPv hgr hgr' hnw ho
        go_wp2_with fail
        go_ret
        obtain ⟨hRn, hFn⟩ := HGR.out
        refine .okI (varOf_new HFn.out h12) (.var vars.length wr.heap.size ?_) hRn ⟨_, rfl⟩ (hF0.trans ((Fr.of_below hb).trans ((Fr.of_below (((Below.refl _ _).alloc (Nat.le_refl _) _).drew)).trans hFn)))
        rw [List.getElem?_append_right (by omega)]
        have : vars.length - vbs.length = 0 := by omega
        rw [this]; rfl
end
end Go.Proofs.YtodpkdajbnceoaaGreatDoor
