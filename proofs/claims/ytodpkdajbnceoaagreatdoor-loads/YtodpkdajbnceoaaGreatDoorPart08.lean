import Derived.Test.YtodpkdajbnceoaaGreatDoorPart07
import Derived.Test.YtodpkdajbnceoaaGreatDoorPart01
set_option linter.unusedVariables false
set_option linter.unusedSimpArgs false
namespace Go.Proofs.YtodpkdajbnceoaaGreatDoor
open Go.RowKit

mutual
def madeS (vl : List Nat) : Ex → List Nd → Nat × List Nd
  | .atom n, T => (T.length, T ++ [⟨97, n, 0, []⟩])
  | .num v, T => (T.length, T ++ [⟨110, ByteArray.empty, v, []⟩])
  | .var k, T => (vl.getD k 0, T)
  | .cmp n args, T => ((madeL vl args T).2.length, (madeL vl args T).2 ++ [⟨99, n, 0, (madeL vl args T).1⟩])
def madeL (vl : List Nat) : List Ex → List Nd → List Nat × List Nd
  | [], T => ([], T)
  | x :: l, T => ((madeS vl x T).1 :: (madeL vl l (madeS vl x T).2).1, (madeL vl l (madeS vl x T).2).2)
end

mutual
def szE : Ex → Nat
  | .atom _ => 1
  | .num _ => 1
  | .var _ => 1
  | .cmp _ args => 1 + szL args
def szL : List Ex → Nat
  | [] => 0
  | x :: l => szE x + szL l
end

mutual
def varsIn (n : Nat) : Ex → Prop
  | .atom _ => True
  | .num _ => True
  | .var k => k < n
  | .cmp _ args => varsInL n args
def varsInL (n : Nat) : List Ex → Prop
  | [] => True
  | x :: l => varsIn n x ∧ varsInL n l
end

theorem madeL_snoc (vl : List Nat) : ∀ (l : List Ex) (x : Ex) (T : List Nd), madeL vl (l ++ [x]) T = ((madeL vl l T).1 ++ [(madeS vl x (madeL vl l T).2).1], (madeS vl x (madeL vl l T).2).2)
  | [], x, T => by simp [madeL]
  | y :: l, x, T => by
    have := madeL_snoc vl l x (madeS vl y T).2
    simp [madeL, this]

mutual
theorem madeS_len (vl : List Nat) : ∀ (x : Ex) (T : List Nd), (madeS vl x T).2.length ≤ T.length + szE x
  | .atom n, T => by simp [madeS, szE]
  | .num v, T => by simp [madeS, szE]
  | .var k, T => by simp [madeS]
  | .cmp n args, T => by have := madeL_len vl args T; simp [madeS, szE]; omega
theorem madeL_len (vl : List Nat) : ∀ (l : List Ex) (T : List Nd), (madeL vl l T).2.length ≤ T.length + szL l
  | [], T => by simp [madeL]
  | x :: l, T => by
    have h1 := madeS_len vl x T
    have h2 := madeL_len vl l (madeS vl x T).2
    simp [madeL, szL]; omega
end

theorem szL_take (l : List Ex) : ∀ k, szL (l.take k) ≤ szL l := by
  induction l with
  | nil => intro k; simp
  | cons x l ih => intro k; cases k with
    | zero => simp [szL]
    | succ k => have := ih k; simp [szL]; omega

theorem szL_get (l : List Ex) : ∀ k (h : k < l.length), szL (l.take k) + szE l[k] ≤ szL l := by
  induction l with
  | nil => intro k h; simp at h
  | cons x l ih => intro k h; cases k with
    | zero => simp [szL]
    | succ k => have := ih k (by simpa using h); simp [szL]; omega

theorem varsInL_get {n : Nat} (l : List Ex) (h : varsInL n l) : ∀ k (hk : k < l.length), varsIn n l[k] := by
  induction l with
  | nil => intro k h; simp at h
  | cons x l ih => intro k hk; cases k with
    | zero => exact h.1
    | succ k => exact ih h.2 k (by simpa using hk)

theorem sizeOf_get (l : List Ex) (n : ByteArray) : ∀ k (h : k < l.length), szE l[k] < szE (.cmp n l) := by
  intro k h
  have := szL_get l k h
  simp [szE]; omega

/-- a table without bindings -/
def TabN (w : World) (hb : Nat) (V : _root_.Fin 6 → Value) (T : List Nd) (avs : List Value) (cost most : Int) : Prop := Tab w hb V T avs (List.replicate T.length (-1)) [] cost most 0

theorem TabN.keep {w w' : World} {hb : Nat} {V : _root_.Fin 6 → Value} {T : List Nd} {avs : List Value} {cost most : Int} (h : TabN w hb V T avs cost most) (hk : ∀ b, HM hb V b → w'.heap[b]? = w.heap[b]?)
    (hk2 : ∀ u ∈ avs, ∀ b, u.ownBlock = some b → w'.heap[b]? = w.heap[b]?) : TabN w' hb V T avs cost most :=
  ⟨h.H.keep hk, h.la, h.lt, fun i hi hi' => ⟨own_keep (h.args i hi hi').1 (fun b q => hk2 _ (List.getElem_mem hi') b q), (h.args i hi hi').2⟩⟩

theorem TabN.alt {w : World} {hb : Nat} {V : _root_.Fin 6 → Value} {T : List Nd} {avs : List Value} {cost most : Int} (h : TabN w hb V T avs cost most) : ∀ u ∈ avs, ∀ b, u.ownBlock = some b → b < w.heap.size := by
  intro u hu b q
  obtain ⟨i, hi, rfl⟩ := List.getElem_of_mem hu
  exact ((h.args i (by rw [← h.la]; exact hi) hi).1.lt b q).2

theorem TabN.below {w w' : World} {hb : Nat} {V : _root_.Fin 6 → Value} {T : List Nd} {avs : List Value} {cost most : Int} (h : TabN w hb V T avs cost most) (hB : Below w.heap.size w w') : TabN w' hb V T avs cost most :=
  h.keep (fun b q => hB.block b (h.H.mlt b q)) (fun u hu b q => hB.block b (h.alt u hu b q))

theorem TabN.add {w w' : World} {hb : Nat} {V V' : _root_.Fin 6 → Value} {T : List Nd} {avs : List Value} {cost most : Int} {k : Int} {nm : ByteArray} {n : Int} {av : Value} {ags : List Nat}
    (h : TabN w hb V T avs cost most) (ho : w.ownsRow 0 3 1 av ags.length (intsV ags)) (hn : ∀ b, av.ownBlock = some b → ¬ HM hb V b)
    (hH : HIn w' hb V' (addC (tabC T avs (List.replicate T.length (-1)) []) k nm n av) cost most 0) (hf : HFr hb V V' w w') : TabN w' hb V' (T ++ [⟨k, nm, n, ags⟩]) (avs ++ [av]) cost most := by
  have := Tab.add h ho hn hH hf
  unfold TabN
  rw [← List.replicate_succ'] at this
  simpa using this

/-- what 'made' leaves: the term's place, the table with it -/
def MadePost (hb : Nat) (V : _root_.Fin 6 → Value) (vl : List Nat) (x : Ex) (T : List Nd) (avs : List Value) (cost most : Int) (w : World) (e : Ending) (w' : World) : Prop :=
  e = .returned (.int .i64 (madeS vl x T).1) ∧ ∃ V' avs2, TabN w' hb V' (madeS vl x T).2 (avs ++ avs2) cost most ∧ HFr hb V V' w w' ∧ ∀ u ∈ avs2, ∀ b, u.ownBlock = some b → w.heap.size ≤ b

/-- while the arguments are made -/
structure MadeAt (w0 : World) (hb : Nat) (V : _root_.Fin 6 → Value) (avs : List Value) (cost most : Int) (v : Value) (idx : List Nat) (wr : World) (V1 : _root_.Fin 6 → Value) (T1 : List Nd) (avs2 : List Value) : Prop where
  T : TabN wr hb V1 T1 (avs ++ avs2) cost most
  fr : HFr hb V V1 w0 wr
  own : wr.ownsRow w0.heap.size 3 1 v idx.length (intsV idx)
  vn : ∀ b, v.ownBlock = some b → ¬ HM hb V1 b
  va : ∀ u ∈ avs ++ avs2, ∀ b, u.ownBlock = some b → v.ownBlock ≠ some b
  new : ∀ u ∈ avs2, ∀ b, u.ownBlock = some b → w0.heap.size ≤ b

theorem made_step {w0 wr w1 w2 : World} {hb : Nat} {V V1 V2 : _root_.Fin 6 → Value} {avs avs2 avs3 : List Value} {cost most : Int} {v v' : Value} {idx : List Nat} {T1 T2 : List Nd} {i : Nat} {o : Obj} (h : MadeAt w0 hb V avs cost most v idx wr V1 T1 avs2)
    (hT : TabN w1 hb V2 T2 ((avs ++ avs2) ++ avs3) cost most) (hf : HFr hb V1 V2 wr w1) (hn3 : ∀ u ∈ avs3, ∀ b, u.ownBlock = some b → wr.heap.size ≤ b)
    (ho : w2.ownsRow w0.heap.size 3 1 v' (idx.length + 1) (intsV idx ++ [.int .i64 i])) (hg : (w1.alloc o).grownBy w2 v.ownBlock) (hn : ∀ b, v'.ownBlock = some b → v.ownBlock = some b ∨ w1.heap.size + 1 ≤ b) :
    MadeAt w0 hb V avs cost most v' (idx ++ [i]) w2 V2 T2 (avs2 ++ avs3) := by
  have hvn : ∀ b, v.ownBlock = some b → ¬ HM hb V2 b := fun b q => not_HM hf (h.own.lt b q).2 (h.vn b q)
  have hs0 := h.fr.size
  have hs1 := hf.size
  have hsz : (w1.alloc o).heap.size = w1.heap.size + 1 := by simp
  have hs2 := hg.size
  have hold : ∀ b, b < w1.heap.size → v.ownBlock ≠ some b → w2.heap[b]? = w1.heap[b]? := fun b hb1 hb2 => by
    rw [hg.block b (by omega) (fun e => hb2 e.symm)]; exact Below.heap_alloc _ _ _ hb1
  have hva : ∀ u ∈ avs ++ (avs2 ++ avs3), ∀ b, u.ownBlock = some b → v.ownBlock ≠ some b := by
    intro u hu b q
    rw [← List.append_assoc] at hu
    rcases List.mem_append.1 hu with hu | hu
    · exact h.va u hu b q
    · intro e; have := hn3 u hu b q; have := (h.own.lt b e).2; omega
  rw [List.append_assoc] at hT
  have halt := TabN.alt hT
  refine ⟨TabN.keep hT (fun b q => hold b (hT.H.mlt b q) (fun e => hvn b e q)) (fun u hu b q => hold b (halt u hu b q) (hva u hu b q)), ?_, ?_, ?_, ?_, ?_⟩
  · have h01 := h.fr.trans hf
    refine ⟨hg.os.trans h01.os, hg.tape.trans h01.tape, hg.output.trans h01.output, by have := h01.size; omega, fun b hb1 hb2 => ?_, h01.mnew⟩
    rw [hold b (by omega) (fun e => by have := (h.own.lt b e).1; omega)]
    exact h01.block b hb1 hb2
  · have e1 : intsV idx ++ [.int .i64 (i : Int)] = intsV (idx ++ [i]) := by simp [intsV]
    rw [← e1]; simpa using ho
  · intro b q e
    rcases hn b q with r | r
    · exact hvn b r e
    · have := hT.H.mlt b e; omega
  · intro u hu b q e
    rcases hn b e with r | r
    · exact hva u hu b q r
    · have := halt u hu b q; omega
  · intro u hu b q
    rcases List.mem_append.1 hu with hu | hu
    · exact h.new u hu b q
    · have := hn3 u hu b q; omega

end Go.Proofs.YtodpkdajbnceoaaGreatDoor

namespace Go.Proofs.YtodpkdajbnceoaaGreatDoor
open Go.RowKit

/-- the contract of 'made' at one term -/
def MadeOk (x : Ex) : Prop :=
  ∀ (w : World) (hb : Nat) (V : _root_.Fin 6 → Value) (T : List Nd) (avs : List Value) (cost most : Int) (cs : List Value) (H0 : Nat) (Ok : Nat → Prop) (ao : Option Addr) (vc : Nat) (vl : List Nat),
    TabN w hb V T avs cost most → ERep w Ok x cs → (∀ b, Ok b → b < H0) → (∀ b, HM hb V b → H0 ≤ b) → H0 ≤ w.heap.size → w.ownsRow 0 3 1 (.slice ao vl.length vc) vl.length (intsV vl) →
    (∀ b, (Value.slice ao vl.length vc).ownBlock = some b → ¬ HM hb V b) → varsIn vl.length x → vl.length ≤ 13 → T.length + szE x ≤ 50000 →
    Calls Tryz.prog 65 #[.pointer (some ⟨hb, 0, none⟩), .agg cs.toArray, .slice ao vl.length vc] w fun e w' => MadePost hb V vl x T avs cost most w e w'

set_option maxRecDepth 100000 in
set_option maxHeartbeats 1000000 in
theorem made_var (k : Nat) : MadeOk (.var k) := by
  intro w hb V T avs cost most cs H0 Ok ao vc vl hT hE hO hM hH ho hvn hvi hvl hsz
  cases hE
  have hk : k < vl.length := hvi
  rcases ho.2 with ⟨_, h0⟩ | ⟨g, cap, cur, hq, _, hgg, hcap, hmx, hcs, htk⟩
  · omega
  cases hq
  have hc : w.cell? ⟨g, k, none⟩ = some (.int .i64 vl[k]) := rowCell hgg htk (by simp [intsV, hk])
  have hgl : g < w.heap.size := (Array.getElem?_eq_some_iff.1 hgg).1
  have HV : Hid ((madeS vl (.var k) T).1 = vl[k] ∧ (madeS vl (.var k) T).2 = T) := by simp [Hid, madeS, hk]
  go_enter Tryz.func65, Tryz.ntmps65
  go_wp2_with fail
  go_ret
  refine ⟨by rw [HV.out.1]; rfl, V, [], ?_, HFr.of_below ((Below.refl _ _).alloc (Nat.le_refl _) _), by simp⟩
  rw [HV.out.2, List.append_nil]
  exact hT.below ((Below.refl _ _).alloc (Nat.le_refl _) _)

theorem szE_pos (x : Ex) : 1 ≤ szE x := by cases x <;> simp [szE]
theorem szL_len : ∀ l : List Ex, l.length ≤ szL l
  | [] => by simp
  | x :: l => by have := szL_len l; have := szE_pos x; simp [szL]; omega

theorem madeL_len1 (vl : List Nat) : ∀ (l : List Ex) (T : List Nd), (madeL vl l T).1.length = l.length
  | [], T => by simp [madeL]
  | x :: l, T => by simp [madeL, madeL_len1 vl l]

/-- arguments, or none -/
def ARow (w : World) (Ok : Nat → Prop) (l : List Ex) (ao : Option Addr) (ac : Nat) : Prop :=
  (l = [] ∧ ao = none ∧ ac = 0) ∨ ∃ g cur cs, ao = some ⟨g, 0, none⟩ ∧ Ok g ∧ w.heap[g]? = some (.cells cur 125 (0, 0)) ∧ l.length ≤ ac ∧ ac ≤ maxLen ∧ cur.size = ac * 5 ∧ cur.toList.take (l.length * 5) = cs ∧ ERepL w Ok l cs

theorem arow_elem {w wr : World} {Ok : Nat → Prop} {l : List Ex} {ao : Option Addr} {ac j : Nat} (h : ARow w Ok l ao ac) (hk : ∀ b, Ok b → b < w.heap.size → wr.heap[b]? = w.heap[b]?) (hj : j < l.length) :
    ∃ g a b c d x y z, ao = some ⟨g, 0, none⟩ ∧ l.length ≤ ac ∧ ac ≤ maxLen ∧ g < wr.heap.size ∧ ERep wr Ok l[j] [.int .u8 a, .string b, .int .i64 c, .int .i64 d, .slice x y z] ∧
      wr.cell? ⟨g, j * 5, none⟩ = some (.int .u8 a) ∧ wr.cell? ⟨g, j * 5 + 1, none⟩ = some (.string b) ∧ wr.cell? ⟨g, j * 5 + 2, none⟩ = some (.int .i64 c) ∧ wr.cell? ⟨g, j * 5 + 3, none⟩ = some (.int .i64 d) ∧ wr.cell? ⟨g, j * 5 + 4, none⟩ = some (.slice x y z) := by
  rcases h with ⟨rfl, _⟩ | ⟨g, cur, cs, rfl, hg, hh, h1, h2, h3, h4, h5⟩
  · simp at hj
  · have hgl := (Array.getElem?_eq_some_iff.1 hh).1
    have hh' : wr.heap[g]? = some (.cells cur 125 (0, 0)) := by rw [hk g hg hgl]; exact hh
    have hel := h5.get j hj
    obtain ⟨a, b, c, d, x, y, z, e⟩ := hel.shape
    obtain ⟨t0, t1, t2, t3, t4⟩ := drop_take_get e
    rw [e] at hel
    exact ⟨g, a, b, c, d, x, y, z, rfl, h1, h2, (Array.getElem?_eq_some_iff.1 hh').1, ERep.frame (fun q hq hlt => ⟨hk q hq hlt, hq⟩) hel, rowCell hh' h4 t0, rowCell hh' h4 t1, rowCell hh' h4 t2, rowCell hh' h4 t3, rowCell hh' h4 t4⟩

set_option maxRecDepth 100000 in
set_option maxHeartbeats 1000000 in
theorem made_node (l : List Ex) (IH : ∀ j (h : j < l.length), MadeOk l[j]) (w : World) (hb : Nat) (V : _root_.Fin 6 → Value) (T : List Nd) (avs : List Value) (cost most : Int) (H0 : Nat) (Ok : Nat → Prop) (ao : Option Addr) (vc : Nat) (vl : List Nat)
    (kk : Int) (nm : ByteArray) (nn : Int) (a1 : Option Addr) (ac : Nat) (hkk : (kk == 118) = false) (hT : TabN w hb V T avs cost most) (hA : ARow w Ok l a1 ac) (hO : ∀ b, Ok b → b < H0) (hM : ∀ b, HM hb V b → H0 ≤ b) (hH : H0 ≤ w.heap.size)
    (ho : w.ownsRow 0 3 1 (.slice ao vl.length vc) vl.length (intsV vl)) (hvn : ∀ b, (Value.slice ao vl.length vc).ownBlock = some b → ¬ HM hb V b) (hvi : varsInL vl.length l) (hvl : vl.length ≤ 13) (hsz : T.length + szL l ≤ 49999) :
    Calls Tryz.prog 65 #[.pointer (some ⟨hb, 0, none⟩), .agg #[.int .u8 kk, .string nm, .int .i64 nn, .int .i64 0, .slice a1 l.length ac], .slice ao vl.length vc] w fun e w' =>
      e = .returned (.int .i64 (madeL vl l T).2.length) ∧ ∃ V' avs2, TabN w' hb V' ((madeL vl l T).2 ++ [⟨kk, nm, nn, (madeL vl l T).1⟩]) (avs ++ avs2) cost most ∧ HFr hb V V' w w' ∧ ∀ u ∈ avs2, ∀ b, u.ownBlock = some b → w.heap.size ≤ b := by
  obtain ⟨i0, hi, hz0, hz1, hz2⟩ := info_parts Tryz.infoInt
  have HIH := hide IH
  have hll : l.length ≤ 50000 := by have := szL_len l; omega
  obtain ⟨w0, hw0⟩ : ∃ w0, w0 = w.alloc (.cells #[.int .u8 kk, .string nm, .int .i64 nn, .int .i64 0, .slice a1 l.length ac] 125) := ⟨_, rfl⟩
  have hB0 : Below w.heap.size w w0 := by rw [hw0]; exact (Below.refl _ _).alloc (Nat.le_refl _) _
  have hbx0 : w0.heap[w.heap.size]? = some (.cells #[.int .u8 kk, .string nm, .int .i64 nn, .int .i64 0, .slice a1 l.length ac] 125 (0, 0)) := by rw [hw0]; exact heap_alloc_new _ _
  have hs0 : w.heap.size < w0.heap.size := by rw [hw0]; simp
  have hT0 := hT.below hB0
  have hnx : ¬ HM hb V w.heap.size := fun e => by have := hT.H.mlt _ e; omega
  have HW := hide hw0
  clear IH
  go_enter Tryz.func65, Tryz.ntmps65
  go_wp2_with fail
  rw [← hw0]
  clear hw0
  go_loopg [7, 8] l.length (fun g v i wr => ∃ j V1 avs2, j + g = l.length ∧ i = .int .i64 (j : Nat) ∧ MadeAt w0 hb V avs cost most v (madeL vl (l.take j) T).1 wr V1 (madeL vl (l.take j) T).2 avs2)
  case atStart => exact ⟨0, V, [], by omega, rfl, by simpa [madeL] using hT0, HFr.refl _ _ _, World.ownsRow_nil _ _ _ _, by simp [Value.ownBlock], by simp [Value.ownBlock], by simp⟩
  case round =>
    obtain ⟨j, V1, avs2, hj, rfl, hA1⟩ := hrel
    have hbx : wr.heap[w.heap.size]? = some (.cells #[.int .u8 kk, .string nm, .int .i64 nn, .int .i64 0, .slice a1 l.length ac] 125 (0, 0)) := by rw [hA1.fr.block _ (by omega) hnx]; exact hbx0
    obtain ⟨c0, c1, c2, c3, c4, cf⟩ := box5 hbx
    have hs1 := hA1.fr.size
    have hlen1 := madeL_len vl (l.take j) T
    have hM1 : ∀ b, HM hb V1 b → H0 ≤ b := fun b q => (hA1.fr.mnew b q).elim (hM b) (fun r => by omega)
    have hkeep : ∀ b, Ok b → b < w.heap.size → wr.heap[b]? = w.heap[b]? := fun b q1 q2 => by
      rw [hA1.fr.block b (by omega) (fun e => by have := hM b e; have := hO b q1; omega), hB0.block b q2]
    have ho1 : wr.ownsRow 0 3 1 (.slice ao vl.length vc) vl.length (intsV vl) := own_hfr (own_below ho hB0) hA1.fr hvn
    have hvn1 : ∀ b, (Value.slice ao vl.length vc).ownBlock = some b → ¬ HM hb V1 b := fun b q => not_HM hA1.fr (by have := (ho.lt b q).2; omega) (hvn b q)
    obtain ⟨idx, hidx⟩ : ∃ i, i = (madeL vl (l.take j) T).1 := ⟨_, rfl⟩
    obtain ⟨T1, hT1⟩ : ∃ t, t = (madeL vl (l.take j) T).2 := ⟨_, rfl⟩
    rw [← hidx, ← hT1] at hA1
    rw [← hT1] at hlen1
    have HIX := hide hidx
    have HT1 := hide hT1
    clear hidx hT1
    by_cases hlt : j < l.length
    · obtain ⟨g, a, b, c, d, x, y, z, rfl, hac, hmx, hgl, hel, q0, q1, q2, q3, q4⟩ := arow_elem hA hkeep hlt
      have hszj := szL_get l j hlt
      have hidl : idx.length ≤ 60000 := by rw [HIX.out, madeL_len1]; have := List.length_take_le j l; omega
      have HC := hide (HIH.out j hlt wr hb V1 T1 (avs ++ avs2) cost most _ H0 Ok ao vc vl hA1.T hel hO hM1 (by omega) ho1 hvn1 (varsInL_get l hvi j hlt) hvl (by omega))
      clear hkeep
      go_wp2_with (first | (go_at_call 65; refine HC.out.mono ?_; rintro e w1 ⟨rfl, V2, avs3, hT2, hf2, hn3⟩) | (at_builtin; refine wpList_append_own2 rfl (.tmp 33) (.tmp 35) 65 rfl w0.heap.size 3 i0 (.int .i64 0) 1 8 Tryz.underlyingInts hi hz0 hz1 hz2 rfl (by decide) _ _ _ rfl ((own_hfr hA1.own hf2 hA1.vn).alloc _) ⟨w1.heap.size, 0, none⟩ 1 1 [.int .i64 (madeS vl l[j] T1).1] rfl rfl (cell_one_new _ _ _) ?_ ?_ ?_ ?_ ?_) | go_in)
      · intro u hu; simp at hu; subst hu; rfl
      · unfold maxLen; omega
      · omega
      · have := hf2.size; simp; omega
      intro v' w2 hov hgv hnv
      have hS := made_step hA1 hT2 hf2 hn3 hov hgv hnv
      have HS := hide hS
      clear hov hgv hnv hS hT2 hf2 hn3 hA1
      go_wp2_with fail
      go_roundg (gk - 1)
      case measure => omega
      case rel =>
        have e : l.take (j + 1) = l.take j ++ [l[j]] := List.take_succ_eq_append_getElem hlt
        refine ⟨j + 1, V2, avs2 ++ avs3, by omega, by go_num, ?_⟩
        rw [e, madeL_snoc, ← HT1.out, ← HIX.out]
        exact HS.out
    · have ej : j = l.length := by omega
      subst ej
      have hl2 : (tabC T1 (avs ++ avs2) (List.replicate T1.length (-1)) [] 0).length = T1.length := by simp [tabC]
      have hlt1 : T1.length ≤ 1000000000 := by rw [List.take_length] at hlen1; omega
      have HA := hide (add_any hA1.T.H (tabC_len hA1.T.la (by simp) 1000000000 hlt1 (by simp)) kk nm nn)
      rw [hl2] at HA
      obtain ⟨va, vcap, hv⟩ := row_form hA1.own
      subst hv
      clear hl2 hkeep
      go_wp2_with (go_at_call 87; refine (HA.out _ _ _).mono ?_; rintro e w1 ⟨rfl, V2, hH2, hf2⟩)
      go_ret
      have e1 := HT1.out
      have e2 := HIX.out
      rw [List.take_length] at e1 e2
      rw [← e1, ← e2]
      have hT2 := TabN.add hA1.T (ags := idx) (ownsRow_base hA1.own (Nat.zero_le _)) hA1.vn hH2 hf2
      rw [List.append_assoc] at hT2
      refine ⟨rfl, V2, _, hT2, (HFr.of_below hB0).trans (hA1.fr.trans hf2), fun u hu b q => ?_⟩
      rcases List.mem_append.1 hu with hu | hu
      · have := hA1.new u hu b q; omega
      · have hu' := List.mem_singleton.1 hu
        subst hu'
        have := (hA1.own.lt b q).1; omega

theorem made_any : ∀ (m : Nat) (x : Ex), szE x ≤ m → MadeOk x
  | 0, x, h => by have := szE_pos x; omega
  | m + 1, .var k, _ => made_var k
  | m + 1, .atom n, _ => by
    intro w hb V T avs cost most cs H0 Ok ao vc vl hT hE hO hM hH ho hvn hvi hvl hsz
    cases hE
    have h := made_node [] (fun j h => absurd h (by simp)) w hb V T avs cost most H0 Ok ao vc vl 97 n 0 none 0 (by decide) hT (.inl ⟨rfl, rfl, rfl⟩) hO hM hH ho hvn trivial hvl (by simp [szE, szL] at hsz ⊢; omega)
    refine h.mono fun e w' he => ?_
    unfold MadePost
    simpa [madeS, madeL] using he
  | m + 1, .num v, _ => by
    intro w hb V T avs cost most cs H0 Ok ao vc vl hT hE hO hM hH ho hvn hvi hvl hsz
    cases hE
    have h := made_node [] (fun j h => absurd h (by simp)) w hb V T avs cost most H0 Ok ao vc vl 110 ByteArray.empty v none 0 (by decide) hT (.inl ⟨rfl, rfl, rfl⟩) hO hM hH ho hvn trivial hvl (by simp [szE, szL] at hsz ⊢; omega)
    refine h.mono fun e w' he => ?_
    unfold MadePost
    simpa [madeS, madeL] using he
  | m + 1, .cmp n args, hm => by
    intro w hb V T avs cost most cs H0 Ok ao vc vl hT hE hO hM hH ho hvn hvi hvl hsz
    cases hE with
    | cmp _ _ g cap cur cs' h1 h2 h3 h4 h5 h6 h7 =>
      have h := made_node args (fun j hj => made_any m args[j] (by have := sizeOf_get args n j hj; omega)) w hb V T avs cost most H0 Ok ao vc vl 99 n 0 (some ⟨g, 0, none⟩) cap (by decide) hT (.inr ⟨g, cur, cs', rfl, h1, h2, h3, h4, h5, h6, h7⟩) hO hM hH ho hvn hvi hvl (by simp [szE] at hsz; omega)
      exact h

end Go.Proofs.YtodpkdajbnceoaaGreatDoor

namespace Go.Proofs.YtodpkdajbnceoaaGreatDoor
open Go.RowKit

def dg (d : Nat) : UInt8 := UInt8.ofNat (48 + d)

def decN (n : Nat) : List UInt8 := if _h : n < 10 then [dg n] else decN (n / 10) ++ [dg (n % 10)]
termination_by n
decreasing_by omega

def decS (v : Int) : List UInt8 := if v < 0 then 45 :: decN v.natAbs else decN v.natAbs

theorem decN_len : ∀ (k n : Nat), n < 10 ^ k → (decN n).length ≤ max k 1
  | 0, n, h => by
    have : n = 0 := by simpa using h
    subst this; rw [decN]; simp
  | k + 1, n, h => by
    rw [decN]
    split
    · simp
    · have := decN_len k (n / 10) (by rw [Nat.pow_succ] at h; omega)
      simp
      have hk : 1 ≤ k := by
        rcases Nat.eq_zero_or_pos k with e | e
        · subst e; simp at h; omega
        · exact e
      omega

theorem B_append (a b : List UInt8) : B a ++ B b = B (a ++ b) := ByteArray.mk_append_mk a b

def digits10 : ByteArray := ⟨#[48, 49, 50, 51, 52, 53, 54, 55, 56, 57]⟩

theorem digit_at (d : Nat) (h : d < 10) : digits10.extract d (d + 1) = B [dg d] := by
  have : d = 0 ∨ d = 1 ∨ d = 2 ∨ d = 3 ∨ d = 4 ∨ d = 5 ∨ d = 6 ∨ d = 7 ∨ d = 8 ∨ d = 9 := by omega
  rcases this with h | h | h | h | h | h | h | h | h | h <;> subst h <;> rfl

theorem ret_str {a b : ByteArray} (h : a = b) : Ending.returned (.string a) = .returned (.string b) := by rw [h]

theorem wrap_div (n : Nat) (h : n < 9223372036854775808) : wrap64 ((n : Int) / 10) = ((n / 10 : Nat) : Int) := by
  unfold wrap64; omega

set_option maxRecDepth 100000 in
set_option maxHeartbeats 1000000 in
theorem decimal_small (n : Nat) (hn : n < 10) (w : World) : Calls Tryz.prog 99 #[.int .i64 n] w fun e w' => e = .returned (.string (B (decN n))) ∧ w' = w := by
  have h0 : (0 : Int) ≤ (n : Int) := by omega
  have h10 : (n : Int) < 10 := by omega
  have HD : Hid (decN n = [dg n]) := by unfold Hid; rw [decN, dif_pos hn]
  go_enter Tryz.func99, Tryz.ntmps99
  go_wp2_with fail
  go_ret
  exact ⟨ret_str (by rw [HD.out, Nat.mod_eq_of_lt hn]; exact digit_at n hn), rfl⟩

theorem decN_lt19 (n : Nat) (h : n < 9223372036854775808) : (B (decN n)).size ≤ 19 := by
  rw [B_size]
  have := decN_len 19 n (by omega)
  omega

set_option maxRecDepth 100000 in
set_option maxHeartbeats 1000000 in
theorem decimal_step (n : Nat) (hn : 10 ≤ n) (hb : n < 9223372036854775808) (ih : ∀ w, Calls Tryz.prog 99 #[.int .i64 ((n / 10 : Nat) : Int)] w fun e w' => e = .returned (.string (B (decN (n / 10)))) ∧ w' = w) (w : World) :
    Calls Tryz.prog 99 #[.int .i64 n] w fun e w' => e = .returned (.string (B (decN n))) ∧ w' = w := by
  have h0 : (0 : Int) ≤ (n : Int) := by omega
  have h10 : ¬ (n : Int) < 10 := by omega
  have HB : Hid (n < 9223372036854775808) := hb
  have hsz := decN_lt19 (n / 10) (by omega)
  have HD : Hid (decN n = decN (n / 10) ++ [dg (n % 10)]) := by unfold Hid; rw [decN, dif_neg (by omega)]
  have HI := hide ih
  have hd := digit_at (n % 10) (by omega)
  have HDG := hide hd
  clear ih hb hd
  go_enter Tryz.func99, Tryz.ntmps99
  go_wp2_with fail
  rw [wrap_div n HB.out]
  refine (HI.out _).mono ?_
  rintro e w1 ⟨rfl, rfl⟩
  have hds : ({ data := #[48, 49, 50, 51, 52, 53, 54, 55, 56, 57] } : ByteArray).extract (n % 10) (n % 10 + 1) = B [dg (n % 10)] := HDG.out
  rw [hds]
  clear hds
  have hs1 : (B [dg (n % 10)]).size ≤ 1 := by rw [B_size]; simp
  go_wp2_with fail
  go_ret
  exact ⟨ret_str (by rw [HD.out, ← B_append]), rfl⟩

theorem decimal_nat : ∀ (n : Nat), n < 9223372036854775808 → ∀ w, Calls Tryz.prog 99 #[.int .i64 n] w fun e w' => e = .returned (.string (B (decN n))) ∧ w' = w := by
  intro n
  induction n using Nat.strongRecOn with
  | _ n ih =>
    intro hb w
    by_cases h : n < 10
    · exact decimal_small n h w
    · exact decimal_step n (by omega) hb (ih (n / 10) (by omega) (by omega)) w

/-- a number's text -/
theorem decS_nat (n : Nat) : decS n = decN n := by
  unfold decS; rw [if_neg (by omega)]; simp

set_option maxRecDepth 100000 in
set_option maxHeartbeats 1000000 in
theorem decimal_neg (n : Nat) (hn : 0 < n) (hb : n < 9223372036854775808) (w : World) : Calls Tryz.prog 99 #[.int .i64 (-(n : Int))] w fun e w' => e = .returned (.string (B (decS (-(n : Int))))) ∧ w' = w := by
  have h0 : -(n : Int) < 0 := by omega
  have hne : (-(n : Int) == (n : Int)) = false := by simp; omega
  have hsz := decN_lt19 n hb
  have HI := hide (decimal_nat n hb)
  have HD : Hid (decS (-(n : Int)) = 45 :: decN n) := by unfold Hid decS; rw [if_pos h0]; simp
  have HB : Hid (n < 9223372036854775808) := hb
  have hwr : wrap64 (n : Int) = (n : Int) := by unfold wrap64; omega
  clear hb
  go_enter Tryz.func99, Tryz.ntmps99
  go_wp2_with (go_at_call 99; refine (HI.out _).mono ?_; rintro e w1 ⟨rfl, rfl⟩)
  go_ret
  exact ⟨ret_str (by rw [HD.out]; exact B_append [45] (decN n)), rfl⟩

theorem decimal_any (v : Int) (h1 : -9223372036854775808 < v) (h2 : v < 9223372036854775808) (w : World) : Calls Tryz.prog 99 #[.int .i64 v] w fun e w' => e = .returned (.string (B (decS v))) ∧ w' = w := by
  by_cases h : v < 0
  · obtain ⟨n, rfl⟩ : ∃ n : Nat, v = -(n : Int) := ⟨v.natAbs, by omega⟩
    exact decimal_neg n (by omega) (by omega) w
  · obtain ⟨n, rfl⟩ : ∃ n : Nat, v = (n : Int) := ⟨v.natAbs, by omega⟩
    rw [decS_nat]
    exact decimal_nat n (by omega) w

end Go.Proofs.YtodpkdajbnceoaaGreatDoor

namespace Go.Proofs.YtodpkdajbnceoaaGreatDoor
open Go.RowKit

theorem own_cell {w : World} {base n j : Nat} {T : TypeId} {v u : Value} {xs : List Value} (h : w.ownsRow base T 1 v n xs) (hj : xs[j]? = some u) :
    ∃ g cap, v = .slice (some ⟨g, 0, none⟩) n cap ∧ n ≤ cap ∧ cap ≤ maxLen ∧ g < w.heap.size ∧ j < n ∧ w.cell? ⟨g, j, none⟩ = some u := by
  have hjl : j < xs.length := (List.getElem?_eq_some_iff.1 hj).1
  have hl := h.1
  rcases h.2 with ⟨_, h0⟩ | ⟨g, cap, cur, rfl, _, hgg, hcap, hmx, hsz, htk⟩
  · omega
  · exact ⟨g, cap, rfl, hcap, hmx, (Array.getElem?_eq_some_iff.1 hgg).1, by omega, rowCell hgg htk hj⟩

set_option maxRecDepth 100000 in
set_option maxHeartbeats 1000000 in
theorem spent_no {w : World} {hb : Nat} {V : _root_.Fin 6 → Value} {C : _root_.Fin 6 → List Value} {cost most : Int} (h : HIn w hb V C cost most 0) (hc : cost ≤ most) :
    Calls Tryz.prog 88 #[.pointer (some ⟨hb, 0, none⟩)] w fun e w' => e = .returned (.bool false) ∧ ∃ n, w' = w.drewN n := by
  have c6 : w.cell? ⟨hb, 6, none⟩ = some (.int .i64 cost) := h.c 6
  have c7 : w.cell? ⟨hb, 7, none⟩ = some (.int .i64 most) := h.c 7
  have c8 : w.cell? ⟨hb, 8, none⟩ = some (.int .i64 0) := h.c 8
  have hd : decide (most < cost) = false := by simpa using hc
  have hz := h.lt_size
  go_enter Tryz.func88, Tryz.ntmps88
  go_wp2_with fail
  go_quiet (fail)
  go_wp2_with fail
  go_ret
  exact ⟨rfl, _, rfl⟩

set_option maxRecDepth 100000 in
set_option maxHeartbeats 1000000 in
theorem walk_any {w : World} {hb : Nat} {V : _root_.Fin 6 → Value} {T : List Nd} {avs : List Value} {cost most : Int} (h : TabN w hb V T avs cost most) (t : Nat) (ht : t < T.length) (_hsm : T.length ≤ 100000) :
    Calls Tryz.prog 98 #[.pointer (some ⟨hb, 0, none⟩), .int .i64 t] w fun e w' => e = .returned (.int .i64 t) ∧ w' = w := by
  have c0 : w.cell? ⟨hb, 0, none⟩ = some (V 0) := h.H.c 0
  have c4 : w.cell? ⟨hb, 4, none⟩ = some (V 4) := h.H.c 4
  have hz := h.H.lt_size
  obtain ⟨g0, cap0, e0, a0, b0, l0, j0, k0⟩ := own_cell (j := t) (u := .int .u8 T[t].k) (h.H.own 0) (by simp [tabC, ht])
  obtain ⟨g4, cap4, e4, a4, b4, l4, j4, k4⟩ := own_cell (j := t) (u := .int .i64 (-1)) (h.H.own 4) (by simp [tabC, ht])
  rw [e0] at c0
  rw [e4] at c4
  have x0 : (tabC T avs (List.replicate T.length (-1)) [] 0).length = T.length := by simp [tabC]
  have x4 : (tabC T avs (List.replicate T.length (-1)) [] 4).length = T.length := by simp [tabC]
  rw [x0] at c0 a0
  rw [x4] at c4 a4
  clear x0 x4 e0 e4 j0 j4
  obtain ⟨K, hK⟩ : ∃ K, K = T[t].k := ⟨_, rfl⟩
  rw [← hK] at k0
  clear hK
  go_enter Tryz.func98, Tryz.ntmps98
  go_wp2_with fail
  go_loopg [1] 1 (fun _ i wr => i = .int .i64 (t : Nat) ∧ w = wr)
  case atStart => exact ⟨rfl, rfl⟩
  case round =>
    obtain ⟨rfl, rfl⟩ := hrel
    cases hv : (K == 118) with
    | true =>
      go_wp2_with fail
      go_ret
      exact ⟨rfl, rfl⟩
    | false =>
      go_wp2_with fail
      go_ret
      exact ⟨rfl, rfl⟩

/-- how close an operation binds; 0: it is none -/
def powS (n : ByteArray) (m : Nat) : Int :=
  if m ≠ 2 then 0 else if n = B [43] ∨ n = B [45] then 1 else if n = B [42] ∨ n = B [47, 47] ∨ n = B [109, 111, 100] then 2 else 0

/-- the writer in memory -/
structure WIn (w : World) (wb hb : Nat) (V : _root_.Fin 6 → Value) (T : List Nd) (avs : List Value) (cost most : Int) (sv : Value) (seen : List Nat) : Prop where
  T : TabN w hb V T avs cost most
  cells : w.heap[wb]? = some (.cells #[.pointer (some ⟨hb, 0, none⟩), sv] 130 (0, 0))
  own : w.ownsRow 0 3 1 sv seen.length (intsV seen)
  wn : ¬ HM hb V wb
  sn : ∀ b, sv.ownBlock = some b → ¬ HM hb V b ∧ b ≠ wb ∧ ∀ u ∈ avs, u.ownBlock ≠ some b
  wa : ∀ u ∈ avs, u.ownBlock ≠ some wb

theorem WIn.w0 {w : World} {wb hb : Nat} {V : _root_.Fin 6 → Value} {T : List Nd} {avs : List Value} {cost most : Int} {sv : Value} {seen : List Nat} (h : WIn w wb hb V T avs cost most sv seen) : w.cell? ⟨wb, 0, none⟩ = some (.pointer (some ⟨hb, 0, none⟩)) := by rw [cell_of_block h.cells]; rfl
theorem WIn.w1 {w : World} {wb hb : Nat} {V : _root_.Fin 6 → Value} {T : List Nd} {avs : List Value} {cost most : Int} {sv : Value} {seen : List Nat} (h : WIn w wb hb V T avs cost most sv seen) : w.cell? ⟨wb, 1, none⟩ = some sv := by rw [cell_of_block h.cells]; rfl

/-- a term's row of the table, as cells -/
theorem TabN.row {w : World} {hb : Nat} {V : _root_.Fin 6 → Value} {T : List Nd} {avs : List Value} {cost most : Int} (h : TabN w hb V T avs cost most) (t : Nat) (ht : t < T.length) :
    ∃ g0 p0 g1 p1 g2 p2 g3 p3 a m c, w.cell? ⟨hb, 0, none⟩ = some (.slice (some ⟨g0, 0, none⟩) T.length p0) ∧ w.cell? ⟨g0, t, none⟩ = some (.int .u8 T[t].k) ∧ T.length ≤ p0 ∧
      w.cell? ⟨hb, 1, none⟩ = some (.slice (some ⟨g1, 0, none⟩) T.length p1) ∧ w.cell? ⟨g1, t, none⟩ = some (.string T[t].nm) ∧ T.length ≤ p1 ∧
      w.cell? ⟨hb, 2, none⟩ = some (.slice (some ⟨g2, 0, none⟩) T.length p2) ∧ w.cell? ⟨g2, t, none⟩ = some (.int .i64 T[t].n) ∧ T.length ≤ p2 ∧
      w.cell? ⟨hb, 3, none⟩ = some (.slice (some ⟨g3, 0, none⟩) T.length p3) ∧ w.cell? ⟨g3, t, none⟩ = some (.slice a m c) ∧ T.length ≤ p3 ∧
      w.ownsRow 0 3 1 (.slice a m c) T[t].ags.length (intsV T[t].ags) ∧ m = T[t].ags.length ∧ (.slice a m c) ∈ avs ∧ g0 ≠ hb ∧ g1 ≠ hb ∧ g2 ≠ hb ∧ g3 ≠ hb := by
  have hta : t < avs.length := by rw [h.la]; exact ht
  obtain ⟨g0, p0, e0, a0, b0, l0, j0, k0⟩ := own_cell (j := t) (u := .int .u8 T[t].k) (h.H.own 0) (by simp [tabC, ht])
  obtain ⟨g1, p1, e1, a1, b1, l1, j1, k1⟩ := own_cell (j := t) (u := .string T[t].nm) (h.H.own 1) (by simp [tabC, ht])
  obtain ⟨g2, p2, e2, a2, b2, l2, j2, k2⟩ := own_cell (j := t) (u := .int .i64 T[t].n) (h.H.own 2) (by simp [tabC, ht])
  obtain ⟨g3, p3, e3, a3, b3, l3, j3, k3⟩ := own_cell (j := t) (u := avs[t]) (h.H.own 3) (by simp [tabC, hta])
  have hA := (h.args t ht hta).1
  obtain ⟨a, c, ea⟩ := row_form hA
  have x0 : (tabC T avs (List.replicate T.length (-1)) [] 0).length = T.length := by simp [tabC]
  have x1 : (tabC T avs (List.replicate T.length (-1)) [] 1).length = T.length := by simp [tabC]
  have x2 : (tabC T avs (List.replicate T.length (-1)) [] 2).length = T.length := by simp [tabC]
  have x3 : (tabC T avs (List.replicate T.length (-1)) [] 3).length = T.length := by simp [tabC, h.la]
  refine ⟨g0, p0, g1, p1, g2, p2, g3, p3, a, _, c, ?_, k0, by omega, ?_, k1, by omega, ?_, k2, by omega, ?_, by rw [← ea]; exact k3, by omega, by rw [← ea]; exact hA, rfl, by rw [← ea]; exact List.getElem_mem hta, fun q => h.H.nb 0 (by rw [e0, q]; rfl), fun q => h.H.nb 1 (by rw [e1, q]; rfl), fun q => h.H.nb 2 (by rw [e2, q]; rfl), fun q => h.H.nb 3 (by rw [e3, q]; rfl)⟩
  · have := h.H.c 0; rw [← x0, ← e0]; exact this
  · have := h.H.c 1; rw [← x1, ← e1]; exact this
  · have := h.H.c 2; rw [← x2, ← e2]; exact this
  · have := h.H.c 3; rw [← x3, ← e3]; exact this

end Go.Proofs.YtodpkdajbnceoaaGreatDoor
