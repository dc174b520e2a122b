import Derived.Test.YtdigbgbmfjggnaaGreatDoorPart22
import Derived.Test.YtdigbgbmfjggnaaGreatDoorShelf
import Derived.Lib.AppendIntMem
import Derived.Deep.RegionWith
import Derived.Test.YtdigbgbmfjggnaaGreatDoorPart11
set_option linter.unusedVariables false
set_option linter.unusedSimpArgs false
namespace Go.Proofs.YtdigbgbmfjggnaaGreatDoor
open Go.RowKit Go.Shelf

/-! Names, numbers and variables are written. -/

theorem dec_eq (n : Nat) : Lib.decDigits n = decN n := by
  induction n using Nat.strongRecOn with
  | ind n ih =>
    rw [Lib.decDigits, decN]
    split
    · rename_i h; simp [dg, Nat.add_comm]
    · rename_i h; rw [ih (n / 10) (by omega)]; simp [dg, Nat.add_comm]

theorem itoa_eq (v : Int) : Lib.itoa v = decS v := by
  unfold Lib.itoa decS
  split
  · rw [dec_eq]
  · rename_i h
    rw [dec_eq, show v.toNat = v.natAbs by omega]

theorem nodup_inj : ∀ {l : List Nat}, l.Nodup → ∀ {i j : Nat} (hi : i < l.length) (hj : j < l.length), l[i] = l[j] → i = j
  | [], _, i, j, hi, _, _ => absurd hi (by simp)
  | a :: l, hn, 0, 0, _, _, _ => rfl
  | a :: l, hn, 0, j + 1, _, hj, e => by
    have h := (List.nodup_cons.1 hn).1
    have e' : a = l[j]'(by simpa using hj) := by simpa using e
    exact absurd (by rw [e']; exact List.getElem_mem _) h
  | a :: l, hn, i + 1, 0, hi, _, e => by
    have h := (List.nodup_cons.1 hn).1
    have e' : l[i]'(by simpa using hi) = a := by simpa using e
    exact absurd (by rw [← e']; exact List.getElem_mem _) h
  | a :: l, hn, i + 1, j + 1, hi, hj, e => by
    exact congrArg (· + 1) (nodup_inj (List.nodup_cons.1 hn).2 (by simpa using hi) (by simpa using hj) (by simpa using e))

theorem idx_map (vbs : List Nat) (hn : vbs.Nodup) {k : Nat} (hk : k < vbs.length) : ∀ (seen : List Nat), (∀ j, j ∈ seen → j < vbs.length) → (seen.map fun j => vbs.getD j 0).idxOf? (vbs.getD k 0) = seen.idxOf? k
  | [], _ => rfl
  | j :: l, h => by
    have hj := h j List.mem_cons_self
    have ih := idx_map vbs hn hk l (fun i hi => h i (List.mem_cons_of_mem _ hi))
    have e : (vbs.getD j 0 == vbs.getD k 0) = (j == k) := by
      rw [Bool.eq_iff_iff, beq_iff_eq, beq_iff_eq, List.getD_eq_getElem?_getD, List.getD_eq_getElem?_getD, List.getElem?_eq_getElem hj, List.getElem?_eq_getElem hk, Option.getD_some, Option.getD_some]
      exact ⟨fun q => nodup_inj hn hj hk q, fun q => by subst q; rfl⟩
    rw [List.map_cons, List.idxOf?_cons, List.idxOf?_cons, e, ih]

theorem num_var (vbs : List Nat) (hn : vbs.Nodup) {k : Nat} (hk : k < vbs.length) (seen : List Nat) (h : ∀ j, j ∈ seen → j < vbs.length) :
    (varOut k seen).1 = 95 :: decN (numOf (seen.map fun j => vbs.getD j 0) (vbs.getD k 0)).1 ∧ (numOf (seen.map fun j => vbs.getD j 0) (vbs.getD k 0)).2 = (varOut k seen).2.map (fun j => vbs.getD j 0) ∧ ∀ j, j ∈ (varOut k seen).2 → j < vbs.length := by
  unfold numOf varOut
  rw [idx_map vbs hn hk seen h]
  cases seen.idxOf? k with
  | some i => exact ⟨rfl, rfl, h⟩
  | none =>
    refine ⟨by simp, by simp, fun j hj => ?_⟩
    rcases List.mem_append.1 hj with hj | hj
    · exact h j hj
    · rw [List.mem_singleton.1 hj]; exact hk

set_option maxRecDepth 100000 in
set_option maxHeartbeats 1000000 in
theorem term_atom (w0 : World) (vbs : List Nat) (n : ByteArray) (hn : n.size ≤ 2000) : WrOk w0 vbs (.atom n) := by
  intro w wb mb out bv seen u h hT hb1 hb2
  cases hT
  have HW := hide (str_w h n (by simp [szE] at hb1; omega))
  have tAA := Tryz.taAA
  have hlt := h.wr.lt_size
  obtain ⟨ad, _, hcl⟩ := h.wr.cells
  have c0 : w.cell? ⟨wb, 0, none⟩ = some ad := by rw [cell_of_block hcl]; rfl
  clear h hcl
  unfold ptrV at *
  go_enter Tryz.func109, Tryz.ntmps109
  go_wp2_with (go_at_call 137; refine HW.out.mono ?_; rintro e w1 ⟨v1, bv1, rfl, h1, f1⟩)
  go_end0
  exact WPost.mk' h1 f1 (by rw [outS]) (by rw [outS])

theorem formatInt_c (v : Int) (h0 : -9223372036854775808 ≤ v) (h1 : v ≤ 9223372036854775807) (w : World) (ht : Lib.TabIs Tryz.prog w "internal/strconv.uint64pow10" .u64 Lib.pow10Tab) :
    Calls Tryz.prog 138 #[.int .i64 v, .int .i64 10] w fun e w' => e = .returned (.string (B (decS v))) ∧ Below w.heap.size w w' :=
  (Tryz.strconv_FormatInt_10 v h0 h1 w ht).mono fun e w' ⟨h1, nk, os, h2⟩ => ⟨by rw [h1, itoa_eq]; rfl, by rw [h2]; exact Lib.below_grow _ _ (Nat.le_refl _) _ _⟩

theorem itoa_c (v : Int) (h0 : -9223372036854775808 ≤ v) (h1 : v ≤ 9223372036854775807) (w : World) (ht : Lib.TabIs Tryz.prog w "internal/strconv.uint64pow10" .u64 Lib.pow10Tab) :
    Calls Tryz.prog 139 #[.int .i64 v] w fun e w' => e = .returned (.string (B (decS v))) ∧ Below w.heap.size w w' :=
  (Tryz.strconv_Itoa v h0 h1 w ht).mono fun e w' ⟨h1, nk, os, h2⟩ => ⟨by rw [h1, itoa_eq]; rfl, by rw [h2]; exact Lib.below_grow _ _ (Nat.le_refl _) _ _⟩

set_option maxRecDepth 100000 in
set_option maxHeartbeats 1000000 in
theorem term_num (w0 : World) (vbs : List Nat) (hC : WCtx w0 vbs) (v : Int) (hv1 : -9223372036854775808 < v) (hv2 : v < 9223372036854775808) : WrOk w0 vbs (.num v) := by
  intro w wb mb out bv seen u h hT hb1 hb2
  cases hT
  have hd := decS_len v hv1 hv2
  have HF := hide (fun w1 (h1 : Below w0.heap.size w0 w1) => formatInt_c v (by omega) (by omega) w1 (hC.tab w1 h1))
  have HW := hide (fun w1 (h1 : WOn w0 vbs w1 wb mb out bv seen) => str_w h1 (B (decS v)) (by rw [B_size]; simp [szE] at hb1; omega))
  have tNA := Tryz.taNA
  have tNN := Tryz.taNN
  have hlt := h.wr.lt_size
  have HD := hide (h.below' (Below.refl _ _).drew)
  clear h
  unfold ptrV at *
  go_enter Tryz.func109, Tryz.ntmps109
  go_wp2
  go_region_with (first | (go_at_call 138; refine (HF.out _ HD.out.below).mono ?_; rintro e w1 ⟨rfl, hB1⟩) | (go_at_call 137; refine (HW.out _ (HD.out.below' hB1)).mono ?_; rintro e w2 ⟨v1, bv1, rfl, h1, f1⟩))
  go_wp2
  go_end0
  exact WPost.mk' h1 ((WFr.of_below (Below.refl _ _).drew).trans ((WFr.of_below hB1).trans f1)) (by rw [outS]; rfl) (by rw [outS])

theorem idx_lt {b : Nat} : ∀ {l : List Nat} {i : Nat}, l.idxOf? b = some i → i < l.length
  | [], i, h => by simp at h
  | a :: l, i, h => by
    rw [List.idxOf?_cons] at h
    split at h
    · injection h with h; subst h; simp
    · obtain ⟨j, hj, rfl⟩ := Option.map_eq_some_iff.1 h
      have := idx_lt hj
      simp; omega

set_option maxRecDepth 100000 in
set_option maxHeartbeats 1000000 in
theorem term_var (w0 : World) (vbs : List Nat) (hC : WCtx w0 vbs) (k : Nat) : WrOk w0 vbs (.var k) := by
  intro w wb mb out bv seen u h hT hb1 hb2
  cases hT
  rename_i b hkb
  obtain ⟨hk, hbe⟩ := List.getElem?_eq_some_iff.1 hkb
  have hgd : vbs.getD k 0 = b := by rw [List.getD_eq_getElem?_getD, hkb]; rfl
  obtain ⟨e1, e2, e3⟩ := num_var vbs hC.nd hk seen h.seen
  rw [hgd] at e1 e2
  have hvb : VarBlks w (b :: seen.map fun j => vbs.getD j 0) := by
    have hv0 : VarBlks w vbs := fun c hc => by
      obtain ⟨n, hn⟩ := hC.vb c hc
      exact ⟨n, (h.below.block c (Array.getElem?_eq_some_iff.1 hn).1).trans hn⟩
    intro c hc
    rcases List.mem_cons.1 hc with rfl | hc
    · exact hv0 _ (List.mem_of_getElem? hkb)
    · obtain ⟨j, hj, rfl⟩ := List.mem_map.1 hc
      have hjl := h.seen j hj
      rw [List.getD_eq_getElem?_getD, List.getElem?_eq_getElem hjl]
      exact hv0 _ (List.getElem_mem hjl)
  have hd := h.below' (Below.refl _ _).drew
  have HN := hide (number_w (w := w.drew) hd.wr hvb (by simp [szE] at hb2 ⊢; omega))
  obtain ⟨nn, hnn⟩ : ∃ nn, nn = numOf (seen.map fun j => vbs.getD j 0) b := ⟨_, rfl⟩
  rw [← hnn] at HN e1 e2
  have hnl : nn.1 ≤ 200000 := by
    have hl : (seen.map fun j => vbs.getD j 0).length ≤ 100000 := by simp [szE] at hb2 ⊢; omega
    rw [hnn]; unfold numOf
    split
    · rename_i i hi
      have : i < (seen.map fun j => vbs.getD j 0).length := by
        exact idx_lt hi
      simp only; omega
    · simp only; omega
  have HI := hide (fun w1 (h1 : Below w0.heap.size w0 w1) => itoa_c (nn.1 : Nat) (by omega) (by omega) w1 (hC.tab w1 h1))
  have hds : decS (nn.1 : Nat) = decN nn.1 := by unfold decS; rw [if_neg (by omega)]; rfl
  rw [hds] at HI
  have hdl := decN_len 6 nn.1 (by omega)
  have hsz : (B (decN nn.1)).size ≤ 100 := by rw [B_size]; omega
  have HW := hide (fun w1 bv1 sn (h1 : WOn w0 vbs w1 wb mb out bv1 sn) => str_w h1 (B [95] ++ B (decN nn.1)) (by rw [ByteArray.size_append, B_size, B_size]; simp [szE] at hb1 ⊢; omega))
  have HD := hide hd
  have HO : Hid (∀ w1, WrIn w1 wb mb w0.heap.size out bv nn.2 → WFr wb mb bv bv w.drew w1 → WOn w0 vbs w1 wb mb out bv (varOut k seen).2) := fun w1 h1 f1 => ⟨by rw [← e2]; exact h1, e3, hd.below.trans (f1.toBelow hd.wr hd.below.size)⟩
  have E1 := hide e1
  have tVA := Tryz.taVA
  have tVN := Tryz.taVN
  have tVV := Tryz.taVV
  have hlt := h.wr.lt_size
  clear h hvb hC hnl hdl hds hd e1 e2 e3 hnn hbe hkb hgd
  unfold ptrV at *
  go_enter Tryz.func109, Tryz.ntmps109
  go_wp2
  go_region_with (first | (go_at_call 140; refine HN.out.mono ?_; rintro e w1 ⟨rfl, h1, f1⟩) | (go_at_call 139; refine (HI.out _ (HO.out _ h1 f1).below).mono ?_; rintro e w2 ⟨rfl, hB2⟩) | (go_at_call 137; refine (HW.out _ _ _ ((HO.out _ h1 f1).below' hB2)).mono ?_; rintro e w3 ⟨v3, bv3, rfl, h3, f3⟩))
  go_wp2
  go_end0
  refine WPost.mk' h3 ((WFr.of_below (Below.refl _ _).drew).trans (f1.trans ((WFr.of_below hB2).trans f3))) ?_ (by rw [outS])
  rw [outS, E1.out, B_append]
  rfl

end Go.Proofs.YtdigbgbmfjggnaaGreatDoor

namespace Go.Proofs.YtdigbgbmfjggnaaGreatDoor
open Go.RowKit Go.Shelf

/-! Operations. -/

theorem ssS_pow (n : ByteArray) : ssS n = if 0 < powS n 2 then powS n 2 else 3 := by
  unfold ssS powS
  by_cases h1 : n = B [43] ∨ n = B [45]
  · simp [h1]
  · by_cases h2 : n = B [42] ∨ n = B [47, 47] ∨ n = B [109, 111, 100]
    · simp [h1, h2]
    · simp [h1, h2]

theorem powS_range (n : ByteArray) : powS n 2 = 0 ∨ powS n 2 = 1 ∨ powS n 2 = 2 := by
  unfold powS
  rw [if_neg (by decide)]
  split
  · exact .inr (.inl rfl)
  · split
    · exact .inr (.inr rfl)
    · exact .inl rfl

/-- brackets are put around what binds less -/
def brS (x : Ex) (br : Bool) (s : List Nat) : List UInt8 × List Nat := if br then (40 :: ((outS x 0 s).1 ++ [41]), (outS x 0 s).2) else outS x 0 s

theorem out_least (x : Ex) (least : Int) (hl : 0 ≤ least) (hl3 : least ≤ 3) (s : List Nat) : outS x least s = brS x (decide (strOf x < least)) s := by
  unfold brS
  match x with
  | .atom n => rw [outS, outS, show strOf (Ex.atom n) = 3 from rfl]; simp; omega
  | .num v => rw [outS, outS, show strOf (Ex.num v) = 3 from rfl]; simp; omega
  | .var k => rw [outS, outS, show strOf (Ex.var k) = 3 from rfl]; simp; omega
  | .cmp n [] => rw [strOf]; simp [outS]; omega
  | .cmp n [a] => rw [strOf]; simp [outS]; omega
  | .cmp n (a :: b :: c :: l) => rw [strOf]; simp [outS]; omega
  | .cmp n [a, b] =>
    have hs : strOf (.cmp n [a, b]) = ssS n := by rw [strOf]; simp
    rw [hs, ssS_pow]
    by_cases hp : 0 < powS n 2
    · have h0 : ¬ powS n 2 < 0 := by omega
      simp only [outS, if_pos hp, if_neg h0]
      by_cases hq : powS n 2 < least
      · simp [hq]
      · simp [hq]
    · have h3 : ¬ (3 : Int) < least := by omega
      simp [outS, hp, h3]

set_option maxRecDepth 100000 in
set_option maxHeartbeats 1000000 in
theorem operand_c {w0 : World} {vbs : List Nat} {x : Ex} (hx : WrOk w0 vbs x) (hxs : short x) (br : Bool) {w : World} {wb mb : Nat} {out : List UInt8} {bv : Value} {seen : List Nat} {u : Value}
    (h : WOn w0 vbs w wb mb out bv seen) (hT : TRep w (fun _ => True) vbs x u) (hb1 : out.length + 2100 * szE x ≤ 300000000) (hb2 : seen.length + szE x ≤ 100000) :
    Calls Tryz.prog 197 #[ptrV wb, u, .bool br] w fun e w' => WPost w0 vbs wb mb out bv w (brS x br seen) e w' := by
  have hlen := (len_ok _ x (Nat.le_refl _) hxs).1 0 seen (by omega)
  have hp := szE_pos x
  obtain ⟨tx, vx, rfl, _⟩ := hT.form
  have hlt := h.wr.lt_size
  cases br with
  | false =>
    have HX := hide (hx w wb mb out bv seen _ h hT (by omega) hb2)
    clear hx h hT
    unfold ptrV at *
    go_enter Tryz.func197, Tryz.ntmps197
    go_wp2_with (first | (go_at_call 109; refine HX.out.mono ?_; rintro e w2 ⟨rfl, bv2, h2, f2⟩))
    go_end0
    exact WPost.mk' h2 f2 (by simp [brS]) (by simp [brS])
  | true =>
    have HB := hide (byte_w h 40 (by omega))
    have HX := hide (fun w1 bv1 (h1 : WOn w0 vbs w1 wb mb (out ++ [40]) bv1 seen) (f1 : WFr wb mb bv bv1 w w1) => hx w1 wb mb (out ++ [40]) bv1 seen _ h1 (hT.frame (h.wr.tkeeps f1) (fun _ h _ => h) (List.prefix_refl _)) (by simp only [List.length_append, List.length_singleton]; omega) hb2)
    have HB2 := hide (fun w2 bv2 sn (h2 : WOn w0 vbs w2 wb mb (out ++ [40] ++ (outS x 0 seen).1) bv2 sn) => byte_w h2 41 (by simp only [List.length_append, List.length_singleton]; omega))
    clear hx h hT
    unfold ptrV at *
    go_enter Tryz.func197, Tryz.ntmps197
    go_upto_region 4 with (first | (go_at_call 173; refine HB.out.mono ?_; rintro e w1 ⟨v1, bv1, rfl, h1, f1⟩) | (go_at_call 109; refine (HX.out _ _ h1 f1).mono ?_; rintro e w2 ⟨rfl, bv2, h2, f2⟩))
    have hlt2 := h2.wr.lt_size
    go_wp2_with (first | (go_at_call 173; refine (HB2.out _ _ _ h2).mono ?_; rintro e w3 ⟨v3, bv3, rfl, h3, f3⟩))
    go_end0
    exact WPost.mk' h3 ((f1.trans f2).trans f3) (by simp [brS]) (by simp [brS])

end Go.Proofs.YtdigbgbmfjggnaaGreatDoor
