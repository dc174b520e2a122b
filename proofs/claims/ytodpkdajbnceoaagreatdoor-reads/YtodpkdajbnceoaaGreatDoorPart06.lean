import Derived.Test.YtodpkdajbnceoaaGreatDoorPart02
import Derived.Test.YtodpkdajbnceoaaGreatDoorPart05
set_option linter.unusedVariables false
set_option linter.unusedSimpArgs false
namespace Go.Proofs.YtodpkdajbnceoaaGreatDoor
open Go.RowKit

/-! The tokens of a text are good ones. -/

structure GoodTok (t : Tok) : Prop where
  noend : t.k ≠ 101
  num : t.k = 110 → t.t.size ≤ 9 ∧ AllDig t.t.data.toList
  place : t.a ≤ 2000

theorem wordK_num {l : List UInt8} (h : wordK l = 110) : l.length ≤ 9 ∧ AllDig l := by
  unfold wordK at h
  split at h
  · cases h
  · split at h
    · cases h
    · split at h
      · cases h
      · rename_i h3
        split at h
        · rename_i h4
          refine ⟨by omega, fun c hc => ?_⟩
          have := List.all_eq_true.1 h4 c hc
          simpa using this
        · cases h

theorem wordK_noend (l : List UInt8) : wordK l ≠ 101 := by
  unfold wordK
  repeat' split
  all_goals decide

theorem lex_good {s : ByteArray} (hs : s.size ≤ 2000) : ∀ (f i : Nat) (acc l : List Tok), lexGo s f i acc = .ok l → i ≤ s.size → acc.length ≤ i → (∀ t ∈ acc, GoodTok t) → l.length ≤ s.size ∧ ∀ t ∈ l, GoodTok t
  | 0, i, acc, l, h, hi, ha, hg => by
    cases h; exact ⟨by omega, hg⟩
  | f + 1, i, acc, l, h, hi, ha, hg => by
    rw [lexGo] at h
    split at h
    · rename_i hlt
      split at h
      · exact lex_good hs f (i + 1) acc l h (by omega) (by omega) hg
      · split at h
        · rename_i hw
          split at h
          · cases h
          · have hle := wordEnd_le s i hi
            refine lex_good hs f _ _ l h hle (by simp; omega) (fun t ht => ?_)
            rcases List.mem_append.1 ht with ht | ht
            · exact hg t ht
            · have ht := List.mem_singleton.1 ht
              subst ht
              refine ⟨wordK_noend _, fun hk => ?_, by show i ≤ 2000; omega⟩
              have h2 := wordK_num hk
              exact ⟨by have h3 := h2.1; rw [Array.length_toList] at h3; exact h3, h2.2⟩
        · split at h
          · cases h
          · rename_i hne
            have hfit := signAt_fits s i hlt
            rw [B_size] at hfit
            have hpos : 0 < (signAt s i).length := List.length_pos_iff.2 hne
            refine lex_good hs f _ _ l h hfit (by simp; omega) (fun t ht => ?_)
            rcases List.mem_append.1 ht with ht | ht
            · exact hg t ht
            · have ht := List.mem_singleton.1 ht
              subst ht
              exact ⟨by show (115 : Int) ≠ 101; decide, fun hk => absurd hk (by show (115 : Int) ≠ 110; decide), by show i ≤ 2000; omega⟩
    · cases h; exact ⟨by omega, hg⟩

theorem good_toks {s : ByteArray} (hs : s.size ≤ 2000) {l : List Tok} (h : lexS s = .ok l) : GoodToks (withEnd s l) := by
  obtain ⟨hl, hg⟩ := lex_good hs s.size 0 [] l h (by omega) (by simp) (by simp)
  have hlen : (withEnd s l).length = l.length + 1 := by simp [withEnd]
  have hin : ∀ i, i < l.length → tk (withEnd s l) i ∈ l := fun i hi => by
    have : tk (withEnd s l) i = l[i] := by simp [tk, withEnd, List.getD_eq_getElem?_getD, List.getElem?_append_left hi, List.getElem?_eq_getElem hi]
    rw [this]; exact List.getElem_mem hi
  have hend : tk (withEnd s l) l.length = ⟨101, ByteArray.empty, s.size⟩ := by simp [tk, withEnd]
  have hout : ∀ i, l.length < i → tk (withEnd s l) i = ⟨101, ByteArray.empty, 0⟩ := fun i hi => by
    simp only [tk, List.getD_eq_getElem?_getD]
    rw [List.getElem?_eq_none (by omega)]; rfl
  refine ⟨by omega, by omega, by rw [hlen, Nat.add_sub_cancel, hend], fun i hi => (hg _ (hin i (by omega))).noend, fun i hk => ?_, fun i => ?_⟩
  · rcases Nat.lt_trichotomy i l.length with h1 | h1 | h1
    · exact (hg _ (hin i h1)).num hk
    · rw [h1, hend] at hk; exact absurd hk (by show (101 : Int) ≠ 110; decide)
    · rw [hout i h1] at hk; exact absurd hk (by show (101 : Int) ≠ 110; decide)
  · rcases Nat.lt_trichotomy i l.length with h1 | h1 | h1
    · exact (hg _ (hin i h1)).place
    · rw [h1, hend]; exact hs
    · rw [hout i h1]; exact Nat.zero_le _

end Go.Proofs.YtodpkdajbnceoaaGreatDoor

namespace Go.Proofs.YtodpkdajbnceoaaGreatDoor
open Go.RowKit

def BegunPost (s : ByteArray) (w : World) (e : Ending) (w' : World) : Prop :=
  Below w.heap.size w w' ∧
  (if 2000 < s.size then e = .returned (.tuple #[.pointer none, .int .i64 1, .int .i64 0])
   else match lexS s with
    | .error p => e = .returned (.tuple #[.pointer none, .int .i64 2, .int .i64 p])
    | .ok l => ∃ bp lv, e = .returned (.tuple #[.pointer (some ⟨bp, 0, none⟩), .int .i64 0, .int .i64 (-1)]) ∧ w.heap.size ≤ bp ∧ PIn w' bp (withEnd s l) lv (.slice none 0 0) ⟨0, [], 0, 0, 0⟩ ∧ (∀ b, lv.ownBlock = some b → w.heap.size ≤ b))

theorem begun_in {s : ByteArray} {w w1 : World} {l : List Tok} {v : Value} (ho : w1.ownsRow w.heap.size 133 3 v (withEnd s l).length (tokCells (withEnd s l))) (hg : GoodToks (withEnd s l)) :
    PIn (w1.alloc (.cells #[v, .int .i64 0, .slice none 0 0, .int .i64 0, .int .i64 0, .int .i64 0] 101)) w1.heap.size (withEnd s l) v (.slice none 0 0) ⟨0, [], 0, 0, 0⟩ := by
  refine ⟨heap_alloc_new _ _, (ownsRow_base ho (Nat.zero_le _)).alloc _, World.ownsRow_nil _ _ _ _, fun e => ?_, by simp [Value.ownBlock], .inl rfl, hg.pos, by simp⟩
  have := (ho.lt _ e).2
  omega

set_option maxRecDepth 100000 in
set_option maxHeartbeats 1000000 in
theorem begun_any (s : ByteArray) (w : World) (hs : s.size ≤ 32768) : Calls Tryz.prog 50 #[.string s] w fun e w' => BegunPost s w e w' := by
  by_cases h2 : 2000 < s.size
  · have h2' : (2000 : Int) < (s.size : Int) := by omega
    go_enter Tryz.func50, Tryz.ntmps50
    go_wp2
    go_ret3
    exact ⟨Below.refl _ _, by rw [if_pos h2]; rfl⟩
  · have h2' : ¬ (2000 : Int) < (s.size : Int) := by omega
    have HL := hide (lex_any s w (by omega))
    cases hl : lexS s with
    | error p =>
      have HLe : Hid (Calls Tryz.prog 79 #[.string s] w fun e w' => Below w.heap.size w w' ∧ e = .returned (.tuple #[.slice none 0 0, .int .i64 p])) :=
        HL.out.mono fun e w' he => by unfold lexPost at he; rw [hl] at he; exact he
      have HLS := hide hl
      clear hl
      go_enter Tryz.func50, Tryz.ntmps50
      go_wp2_with (go_at_call 79; refine HLe.out.mono ?_; rintro e w1 ⟨hb, rfl⟩)
      go_ret3
      exact ⟨hb, by rw [if_neg h2, HLS.out]; rfl⟩
    | ok l =>
      have HLe : Hid (Calls Tryz.prog 79 #[.string s] w fun e w' => Below w.heap.size w w' ∧ ∃ v, e = .returned (.tuple #[v, .int .i64 (-1)]) ∧ w'.ownsRow w.heap.size 133 3 v (withEnd s l).length (tokCells (withEnd s l))) :=
        HL.out.mono fun e w' he => by unfold lexPost at he; rw [hl] at he; exact he
      have hg := good_toks (by omega) hl
      have HLS := hide hl
      clear hl
      go_enter Tryz.func50, Tryz.ntmps50
      go_wp2_with (go_at_call 79; refine HLe.out.mono ?_; rintro e w1 ⟨hb, v, rfl, ho⟩; obtain ⟨ao, cap, hv⟩ := row_form ho; subst hv)
      go_ret3
      refine ⟨hb.alloc hb.size _, ?_⟩
      rw [if_neg h2, HLS.out]
      exact ⟨w1.heap.size, _, rfl, hb.size, begun_in ho hg, fun b e => (ho.lt b e).1⟩

/-- nothing may stand behind -/
def PS.fin (st : PS) (t : Tok) : PS := if st.err = 0 ∧ t.k ≠ 101 then st.fault 2 t.a else st

set_option maxRecDepth 100000 in
set_option maxHeartbeats 1000000 in
theorem finished_any {w : World} {bp : Nat} {toks : List Tok} {lv vv : Value} {st : PS} (h : PIn w bp toks lv vv st) (hg : GoodToks toks) :
    Calls Tryz.prog 53 #[.pointer (some ⟨bp, 0, none⟩)] w fun e w' =>
      e = .returned (.tuple #[]) ∧ PIn w' bp toks lv vv (st.fin (tk toks st.i)) ∧ Fr bp vv vv w w' := by
  have HN := hide (next_any h hg)
  obtain ⟨t, ht⟩ : ∃ t, t = tk toks st.i := ⟨_, rfl⟩
  have HNo : Hid (∀ (w' : World), PIn w' bp toks lv vv st → Calls Tryz.prog 83 #[.pointer (some ⟨bp, 0, none⟩)] w' fun e w'' => e = .returned (.tuple #[]) ∧ PIn w'' bp toks lv vv (st.fault 2 t.a) ∧ Fr bp vv vv w' w'') :=
    fun w' h' => by rw [ht]; exact none_any h' hg
  rw [← ht] at HN ⊢
  clear ht
  by_cases he : st.err = 0
  · by_cases hk : t.k = 101
    · have HF : Hid (st.fin t = st) := by unfold Hid PS.fin; rw [if_neg (by rintro ⟨_, q⟩; exact q hk)]
      have he' : (st.err == 0) = true := by simpa using he
      have hk' : (t.k == 101) = true := by simpa using hk
      rw [HF.out]
      clear he hk
      go_enter Tryz.func53, Tryz.ntmps53
      go_wp2_with (go_at_call 67; refine HN.out.mono ?_; rintro e w1 ⟨rfl, hb⟩; unfold tokV; have h1 := h.below hb; have c4 := h1.c4; have hz1 := h1.lt_size)
      go_end0
      exact ⟨rfl, h1.alloc _, (Fr.of_below hb).alloc _⟩
    · have HF : Hid (st.fin t = st.fault 2 t.a) := by unfold Hid PS.fin; rw [if_pos ⟨he, hk⟩]
      have he' : (st.err == 0) = true := by simpa using he
      have hk' : (t.k == 101) = false := by simpa using hk
      rw [HF.out]
      clear he hk
      go_enter Tryz.func53, Tryz.ntmps53
      go_wp2_with (first | (go_at_call 67; refine HN.out.mono ?_; rintro e w1 ⟨rfl, hb⟩; unfold tokV; have h1 := h.below hb; have c4 := h1.c4; have hz1 := h1.lt_size) | (go_at_call 83; refine (HNo.out _ (h1.alloc _)).mono ?_; rintro e w2 ⟨rfl, hP2, hfr2⟩))
      go_end0
      exact ⟨rfl, hP2, ((Fr.of_below hb).alloc _).trans hfr2⟩
  · have HF : Hid (st.fin t = st) := by unfold Hid PS.fin; rw [if_neg (by rintro ⟨q, _⟩; exact he q)]
    have he' : (st.err == 0) = false := by simpa using he
    rw [HF.out]
    clear he
    go_enter Tryz.func53, Tryz.ntmps53
    go_wp2_with (go_at_call 67; refine HN.out.mono ?_; rintro e w1 ⟨rfl, hb⟩; unfold tokV; have h1 := h.below hb; have c4 := h1.c4; have hz1 := h1.lt_size)
    go_end0
    exact ⟨rfl, h1.alloc _, (Fr.of_below hb).alloc _⟩

/-- a clause's cells: a term by itself -/
def clauseZero : Array Value := #[.string ByteArray.empty, .slice none 0 0, .int .u8 0, .string ByteArray.empty, .slice none 0 0, .slice none 0 0, .slice none 0 0]

def TermPost (s : ByteArray) (w : World) (e : Ending) (w' : World) : Prop :=
  Below w.heap.size w w' ∧
  match termS s with
  | .error (er, a) => e = .returned (.tuple #[.agg clauseZero, .int .i64 er, .int .i64 a]) ∧ er ≠ 0
  | .ok (x, vars) => ∃ g vv cs, e = .returned (.tuple #[.agg #[.string ByteArray.empty, .slice (some ⟨g, 0, none⟩) 1 1, .int .u8 0, .string ByteArray.empty, .slice none 0 0, .slice none 0 0, vv], .int .i64 0, .int .i64 (-1)]) ∧
      w'.heap[g]? = some (.cells cs.toArray 125 (0, 0)) ∧ ERep w' (fun b => w.heap.size ≤ b) x cs ∧ w'.ownsRow 0 9 1 vv vars.length (vars.map Value.string) ∧ vars.length ≤ 12

theorem box7 {w : World} {b : Nat} {x0 x1 x2 x3 x4 x5 x6 : Value} {T : TypeId} (h : w.heap[b]? = some (.cells #[x0, x1, x2, x3, x4, x5, x6] T (0, 0))) :
    w.cell? ⟨b, 0, none⟩ = some x0 ∧ w.cell? ⟨b, 1, none⟩ = some x1 ∧ w.cell? ⟨b, 2, none⟩ = some x2 ∧ w.cell? ⟨b, 3, none⟩ = some x3 ∧ w.cell? ⟨b, 4, none⟩ = some x4 ∧ w.cell? ⟨b, 5, none⟩ = some x5 ∧ w.cell? ⟨b, 6, none⟩ = some x6 ∧ ∀ j, w.frozen? ⟨b, j, none⟩ = false :=
  ⟨by rw [cell_of_block h]; rfl, by rw [cell_of_block h]; rfl, by rw [cell_of_block h]; rfl, by rw [cell_of_block h]; rfl, by rw [cell_of_block h]; rfl, by rw [cell_of_block h]; rfl, by rw [cell_of_block h]; rfl, fun j => by simp [World.frozen?, h]⟩

theorem Fr.below {bp : Nat} {v0 v1 : Value} {a b : World} (h : Fr bp v0 v1 a b) {n : Nat} (hb : n ≤ bp) (hv : ∀ x, v0.ownBlock = some x → n ≤ x) (hn : n ≤ a.heap.size) : Below n a b :=
  ⟨h.os, h.tape, h.output, h.size, fun k hk => h.block k (by omega) (by omega) (fun e => by have := hv k e; omega)⟩

theorem termBox {w w1 : World} (hb : Below (w.alloc (.cells clauseZero 50)).heap.size (w.alloc (.cells clauseZero 50)) w1) : w1.heap[w.heap.size]? = some (.cells clauseZero 50 (0, 0)) := by
  rw [hb.block _ (by simp)]; exact heap_alloc_new _ _

theorem termBelow {w w1 : World} {o : Obj} (hb : Below (w.alloc o).heap.size (w.alloc o) w1) : Below w.heap.size w w1 :=
  ((Below.refl _ _).alloc (Nat.le_refl _) o).trans (hb.mono (by simp))

theorem below_set7 {n : Nat} {a w : World} (h : Below n a w) {b : Nat} (hb : n ≤ b) (x0 x1 x2 x3 x4 x5 x6 : Value) :
    Below n a (((((((w.setCell ⟨b, 0, none⟩ x0).setCell ⟨b, 1, none⟩ x1).setCell ⟨b, 2, none⟩ x2).setCell ⟨b, 3, none⟩ x3).setCell ⟨b, 4, none⟩ x4).setCell ⟨b, 5, none⟩ x5).setCell ⟨b, 6, none⟩ x6) :=
  ((((((h.setCell hb x0).setCell hb x1).setCell hb x2).setCell hb x3).setCell hb x4).setCell hb x5).setCell hb x6

theorem termPost_err {s : ByteArray} {w w' : World} {er : Int} {a : Nat} (ht : termS s = .error (er, a)) (h0 : er ≠ 0) (hb : Below w.heap.size w w') : TermPost s w (.returned (.tuple #[.agg clauseZero, .int .i64 er, .int .i64 a])) w' := by
  unfold TermPost; rw [ht]; exact ⟨hb, rfl, h0⟩

def set7 (w : World) (b : Nat) (x0 x1 x2 x3 x4 x5 x6 : Value) : World :=
  ((((((w.setCell ⟨b, 0, none⟩ x0).setCell ⟨b, 1, none⟩ x1).setCell ⟨b, 2, none⟩ x2).setCell ⟨b, 3, none⟩ x3).setCell ⟨b, 4, none⟩ x4).setCell ⟨b, 5, none⟩ x5).setCell ⟨b, 6, none⟩ x6

theorem set7_other (w : World) (b : Nat) (x0 x1 x2 x3 x4 x5 x6 : Value) (k : Nat) (h : k ≠ b) : (set7 w b x0 x1 x2 x3 x4 x5 x6).heap[k]? = w.heap[k]? := by
  unfold set7
  rw [Below.heap_setCell _ _ _ _ h, Below.heap_setCell _ _ _ _ h, Below.heap_setCell _ _ _ _ h, Below.heap_setCell _ _ _ _ h, Below.heap_setCell _ _ _ _ h, Below.heap_setCell _ _ _ _ h, Below.heap_setCell _ _ _ _ h]

theorem set7_size (w : World) (b : Nat) (x0 x1 x2 x3 x4 x5 x6 : Value) : (set7 w b x0 x1 x2 x3 x4 x5 x6).heap.size = w.heap.size := by simp [set7, World.setCell]

theorem termPost_ok {s : ByteArray} {w w1 w2 w3 : World} {bp : Nat} {x : Ex} {vars : List ByteArray} {ao : Option Addr} {cap n : Nat} {cs : List Value} {o : Obj} {y0 y1 y2 y3 y4 y5 y6 : Value} (ht : termS s = .ok (x, vars)) (hz : w.heap.size + 1 ≤ w1.heap.size)
    (hfr2 : Fr bp (.slice none 0 0) (.slice ao n cap) w1 w2) (hfr3 : Fr bp (.slice ao n cap) (.slice ao n cap) (w2.alloc o) w3) (hv : w3.ownsRow 0 9 1 (.slice ao vars.length cap) vars.length (vars.map Value.string)) (hb : Below w.heap.size w w3)
    (hE : ERep w2 (fun b => w1.heap.size ≤ b ∧ b ≠ bp ∧ (Value.slice ao n cap).ownBlock ≠ some b) x cs) (hl : vars.length ≤ 12) :
    TermPost s w (.returned (.tuple #[.agg #[.string ByteArray.empty, .slice (some ⟨w3.heap.size, 0, none⟩) 1 1, .int .u8 0, .string ByteArray.empty, .slice none 0 0, .slice none 0 0, .slice ao vars.length cap], .int .i64 0, .int .i64 (-1)]))
      (((set7 w3 w.heap.size y0 y1 y2 y3 y4 y5 y6).alloc (.cells cs.toArray 125)).drew) := by
  have hs2 := hfr2.size
  have hs3 := hfr3.size
  have hso : (w2.alloc o).heap.size = w2.heap.size + 1 := by simp
  unfold TermPost
  rw [ht]
  have hB1 : Below w.heap.size w (set7 w3 w.heap.size y0 y1 y2 y3 y4 y5 y6) := below_set7 hb (Nat.le_refl _) y0 y1 y2 y3 y4 y5 y6
  have hB2 := (hB1.alloc hB1.size (.cells cs.toArray 125)).drew
  generalize hW7 : set7 w3 w.heap.size y0 y1 y2 y3 y4 y5 y6 = W7 at *
  have hsz7 : W7.heap.size = w3.heap.size := by rw [← hW7]; exact set7_size _ _ _ _ _ _ _ _ _
  have hot7 : ∀ k, k ≠ w.heap.size → W7.heap[k]? = w3.heap[k]? := fun k hk => by rw [← hW7]; exact set7_other _ _ _ _ _ _ _ _ _ _ hk
  refine ⟨hB2, w3.heap.size, _, cs, rfl, ?_, ?_, ?_, hl⟩
  · have := heap_alloc_new W7 (.cells cs.toArray 125)
    rw [hsz7] at this
    exact this
  · refine ERep.frame (fun b hb1 hlt => ?_) hE
    obtain ⟨q1, q2, q3⟩ := hb1
    refine ⟨?_, by omega⟩
    refine (Below.heap_alloc _ _ _ (by rw [hsz7]; omega)).trans ((hot7 b (by omega)).trans ?_)
    rw [hfr3.block b (by omega) q2 q3, Below.heap_alloc _ _ _ hlt]
  · refine ⟨hv.1, ?_⟩
    rcases hv.2 with hn | ⟨g, cap', cur, hq, r1, r2, r3⟩
    · exact .inl hn
    · cases hq
      refine .inr ⟨g, _, cur, rfl, r1, ?_, r3⟩
      have hge : w1.heap.size ≤ g := by
        rcases hfr2.vnew g rfl with q | q
        · simp [Value.ownBlock] at q
        · exact q
      exact (Below.heap_alloc _ _ _ (by rw [hsz7]; exact (Array.getElem?_eq_some_iff.1 r2).1)).trans ((hot7 g (by omega)).trans r2)

def termEnd (toks : List Tok) : R Ex → Except (Int × Nat) (Ex × List ByteArray)
  | .error e => .error e
  | .ok (x, st) => if (tk toks st.1).k = 101 then .ok (x, st.2) else .error (2, (tk toks st.1).a)

theorem term_cases {toks : List Tok} {w1 w2 : World} {bp : Nat} {vv2 : Value} {st st2 : PS} {cs : List Value} {r : R Ex} {T : Except (Int × Nat) (Ex × List ByteArray)} (hok : ErOk r st w1 w2 bp vv2 st2 cs) (ht : T = termEnd toks r) :
    (∃ er a, T = .error (er, a) ∧ (st2.fin (tk toks st2.i)).err = er ∧ (st2.fin (tk toks st2.i)).at_ = (a : Nat) ∧ er ≠ 0) ∨
    (∃ x, T = .ok (x, st2.vars) ∧ st2.fin (tk toks st2.i) = st2 ∧ st2.err = 0 ∧ ERep w2 (fun b => w1.heap.size ≤ b ∧ b ≠ bp ∧ vv2.ownBlock ≠ some b) x cs ∧ st2.vars.length ≤ 12) := by
  cases r with
  | error e =>
    obtain ⟨e1, e2, e3⟩ := hok
    have : st2.fin (tk toks st2.i) = st2 := by unfold PS.fin; rw [if_neg (by rintro ⟨q, _⟩; exact e3 (e1.symm.trans q))]
    rw [this]
    exact .inl ⟨e.1, e.2, ht, e1, e2, e3⟩
  | ok p =>
    obtain ⟨f1, f2, f3, f4, f5, f6⟩ := hok
    unfold termEnd at ht
    dsimp only at ht
    by_cases hk : (tk toks p.2.1).k = 101
    · rw [if_pos hk] at ht
      have : st2.fin (tk toks st2.i) = st2 := by unfold PS.fin; rw [if_neg (by rintro ⟨_, q⟩; exact q (by rw [f2]; exact hk))]
      exact .inr ⟨p.1, by rw [ht, f3], this, f1, f6, by rw [f3]; exact f5⟩
    · rw [if_neg hk] at ht
      have : st2.fin (tk toks st2.i) = st2.fault 2 (tk toks st2.i).a := by unfold PS.fin; rw [if_pos ⟨f1, by rw [f2]; exact hk⟩]
      rw [this]
      exact .inl ⟨2, (tk toks p.2.1).a, ht, by simp [PS.fault, f1], by simp [PS.fault, f1, f2], by decide⟩

set_option maxRecDepth 100000 in
set_option maxHeartbeats 1000000 in
theorem term_any (s : ByteArray) (w : World) (hs : s.size ≤ 32768) : Calls Tryz.prog 38 #[.string s] w fun e w' => TermPost s w e w' := by
  have HBe := hide (begun_any s (w.alloc (.cells clauseZero 50)) hs)
  by_cases h2 : 2000 < s.size
  · have HB2 : Hid (Calls Tryz.prog 50 #[.string s] (w.alloc (.cells clauseZero 50)) fun e w' => Below (w.alloc (.cells clauseZero 50)).heap.size (w.alloc (.cells clauseZero 50)) w' ∧ e = .returned (.tuple #[.pointer none, .int .i64 1, .int .i64 0])) :=
      HBe.out.mono fun e w' he => by unfold BegunPost at he; rw [if_pos h2] at he; exact he
    have HT : Hid (termS s = .error (1, 0)) := by unfold Hid termS; rw [if_pos h2]
    go_enter Tryz.func38, Tryz.ntmps38
    go_wp2_with (go_at_call 50; refine HB2.out.mono ?_; rintro e w1 ⟨hb, rfl⟩; obtain ⟨c0, c1, c2, c3, c4, c5, c6, cf⟩ := box7 (termBox hb))
    exact bodyPost_ret (v := .tuple #[.agg clauseZero, .int .i64 1, .int .i64 0]) (by simp [results, Tryz.results38, go_sem, c0, c1, c2, c3, c4, c5, c6]; rfl) rfl (termPost_err HT.out (by decide) (below_set7 (termBelow hb) (Nat.le_refl _) _ _ _ _ _ _ _))
  · cases hl : lexS s with
    | error p =>
      have HB2 : Hid (Calls Tryz.prog 50 #[.string s] (w.alloc (.cells clauseZero 50)) fun e w' => Below (w.alloc (.cells clauseZero 50)).heap.size (w.alloc (.cells clauseZero 50)) w' ∧ e = .returned (.tuple #[.pointer none, .int .i64 2, .int .i64 p])) :=
        HBe.out.mono fun e w' he => by unfold BegunPost at he; rw [if_neg h2, hl] at he; exact he
      have HT : Hid (termS s = .error (2, p)) := by unfold Hid termS; rw [if_neg h2, hl]
      clear hl
      go_enter Tryz.func38, Tryz.ntmps38
      go_wp2_with (go_at_call 50; refine HB2.out.mono ?_; rintro e w1 ⟨hb, rfl⟩; obtain ⟨c0, c1, c2, c3, c4, c5, c6, cf⟩ := box7 (termBox hb))
      exact bodyPost_ret (v := .tuple #[.agg clauseZero, .int .i64 2, .int .i64 p]) (by simp [results, Tryz.results38, go_sem, c0, c1, c2, c3, c4, c5, c6]; rfl) rfl (termPost_err HT.out (by decide) (below_set7 (termBelow hb) (Nat.le_refl _) _ _ _ _ _ _ _))
    | ok l =>
      have hg := good_toks (by omega) hl
      have HB2 : Hid (Calls Tryz.prog 50 #[.string s] (w.alloc (.cells clauseZero 50)) fun e w' => Below (w.alloc (.cells clauseZero 50)).heap.size (w.alloc (.cells clauseZero 50)) w' ∧ ∃ bp lv, e = .returned (.tuple #[.pointer (some ⟨bp, 0, none⟩), .int .i64 0, .int .i64 (-1)]) ∧ (w.alloc (.cells clauseZero 50)).heap.size ≤ bp ∧ PIn w' bp (withEnd s l) lv (.slice none 0 0) ⟨0, [], 0, 0, 0⟩ ∧ (∀ b, lv.ownBlock = some b → (w.alloc (.cells clauseZero 50)).heap.size ≤ b)) :=
        HBe.out.mono fun e w' he => by unfold BegunPost at he; rw [if_neg h2, hl] at he; exact he
      have HT : Hid (termS s = termEnd (withEnd s l) (exprS (withEnd s l) 8 (0, []))) := by
        unfold Hid termS; rw [if_neg h2, hl]; dsimp only; cases exprS (withEnd s l) 8 (0, []) <;> rfl
      clear hl
      obtain ⟨toks, htk⟩ : ∃ t, t = withEnd s l := ⟨_, rfl⟩
      rw [← htk] at hg HB2 HT
      clear htk
      have HX := hide (expr_at hg)
      go_enter Tryz.func38, Tryz.ntmps38
      go_upto_if 28 with (first | (go_at_call 50; refine HB2.out.mono ?_; rintro e w1 ⟨hb, bp, lv, rfl, hbp, hP1, hlv⟩) | (go_at_call 64; refine (HX.out _ _ _ _ _ hP1 rfl (by simp) rfl).mono ?_; rintro e w2 ⟨cs, vv2, st2, rfl, ⟨z0, z1, z2, z3, z4, z5, z6, rfl⟩, hP2, hfr2, hdp2, hok2⟩) | (go_at_call 53; refine (finished_any (hP2.alloc _) hg).mono ?_; rintro e w3 ⟨rfl, hP3, hfr3⟩; have q4 := hP3.c4))
      have hz1 : w.heap.size + 1 ≤ w1.heap.size := by have := hb.size; simpa using this
      have hbp' : w.heap.size + 1 ≤ bp := by simpa using hbp
      have hfr13 := (hfr2.alloc (.cells #[.int .u8 z0, .string z1, .int .i64 z2, .int .i64 z3, .slice z4 z5 z6] 125)).trans hfr3
      have hbox : w3.heap[w.heap.size]? = some (.cells clauseZero 50 (0, 0)) := by
        rw [hfr13.block _ (by omega) (by omega) (by simp [Value.ownBlock])]; exact termBox hb
      obtain ⟨c0, c1, c2, c3, c4, c5, c6, cf⟩ := box7 hbox
      have hbw : Below w.heap.size w w3 := (termBelow hb).trans (hfr13.below (by omega) (by simp [Value.ownBlock]) (by omega))
      have q5 := hP3.c5
      have q2 := hP3.c2
      have hbpz := hP3.lt_size
      rcases term_cases hok2 HT.out with ⟨er, a, ht, s1, s2, s3⟩ | ⟨x, ht, s1, s2, s3, s4⟩
      · rw [s1] at q4
        rw [s2] at q5
        have s3' : (er == 0) = false := by simpa using s3
        have HTT := hide ht
        clear ht hok2 HB2 HBe
        go_wp2_with fail
        go_region
        go_wp2_with fail
        exact bodyPost_ret (v := .tuple #[.agg clauseZero, .int .i64 er, .int .i64 a]) (by simp [results, Tryz.results38, go_sem, c0, c1, c2, c3, c4, c5, c6]; rfl) rfl (termPost_err HTT.out s3 (Below.drew (below_set7 hbw (Nat.le_refl _) _ _ _ _ _ _ _)))
      · rw [s1] at q4
        rw [s2] at q4
        have HTT := hide ht
        have s2' : (st2.err == 0) = true := by simpa using s2
        have S1 := hide s1
        rw [s1]
        clear ht hok2 HB2 HBe s1 s2
        obtain ⟨k0, k1, k2, k3, k4, kf⟩ := box5 (tok_kept hP2 hfr3)
        have hk3 : w2.heap.size < w3.heap.size := World.block_lt_of_cell? w3 _ k0
        have hPv := hP3.vars
        rw [S1.out] at hPv
        obtain ⟨ao, cap, hao⟩ := row_form hPv
        subst hao
        have hz3 : w.heap.size < w3.heap.size := World.block_lt_of_cell? w3 _ c0
        go_wp2_with fail
        go_region
        go_wp2_with fail
        exact bodyPost_ret (v := .tuple #[.agg #[.string ByteArray.empty, .slice (some ⟨w3.heap.size, 0, none⟩) 1 1, .int .u8 0, .string ByteArray.empty, .slice none 0 0, .slice none 0 0, .slice ao st2.vars.length cap], .int .i64 0, .int .i64 (-1)]) (by simp [results, Tryz.results38, go_sem, c0, c1, c2, c3, c4, c5, c6, hz3]; rfl) rfl
          (termPost_ok HTT.out hz1 hfr2 hfr3 hPv hbw s3 s4)

end Go.Proofs.YtodpkdajbnceoaaGreatDoor
