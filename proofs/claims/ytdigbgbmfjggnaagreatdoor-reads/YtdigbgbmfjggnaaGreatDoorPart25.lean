import Derived.Test.YtdigbgbmfjggnaaGreatDoorPart24
set_option linter.unusedVariables false
set_option linter.unusedSimpArgs false
namespace Go.Proofs.YtdigbgbmfjggnaaGreatDoor
open Go.RowKit Go.Shelf

/-! Lists are written. -/

theorem shortL_mem : ∀ {l : List Ex}, shortL l → ∀ x, x ∈ l → short x
  | [], _, x, hx => by simp at hx
  | y :: l, h, x, hx => by
    rcases List.mem_cons.1 hx with rfl | hx
    · exact h.1
    · exact shortL_mem h.2 x hx

theorem szL_mem : ∀ {l : List Ex} {x : Ex}, x ∈ l → szE x ≤ szL l
  | [], x, hx => by simp at hx
  | y :: l, x, hx => by
    rcases List.mem_cons.1 hx with rfl | hx
    · rw [szL]; omega
    · have := szL_mem hx
      rw [szL]; omega

set_option maxRecDepth 100000 in
set_option maxHeartbeats 4000000 in
theorem listW_c {w0 : World} {vbs : List Nat} {x : Ex} (hA : ∀ y, szE y < szE x → short y → WrOk w0 vbs y) (hxs : short x) (hcell : ∃ a b, x = cellEx a b) {w : World} {wb mb : Nat} {out : List UInt8} {bv : Value} {seen : List Nat} {g : Nat}
    (h : WOn w0 vbs w wb mb out bv seen) (hT : TRep w (fun _ => True) vbs x (.iface 269 (ptrV g))) (hb1 : out.length + 2100 * szE x ≤ 300000040) (hb2 : seen.length + szE x ≤ 100000) :
    Calls Tryz.prog 170 #[ptrV wb, ptrV g] w fun e w' => WPost w0 vbs wb mb out bv w (outS x 0 seen) e w' := by
  have HE := hide (elementsOf_c hT (by omega))
  have HH := hide h
  have HA := hide hA
  have hlt := h.wr.lt_size
  have HX := hide hxs
  have HC := hide hcell
  clear h hA hT hxs hcell
  unfold ptrV at *
  go_enter Tryz.func170, Tryz.ntmps170
  go_upto_region 1 with (first | (go_at_call 196; refine HE.out.mono ?_; rintro e w1 ⟨ev, rv, exs, rest, us, rfl, hno, hO⟩; have hown := hO.own; have hrest := hO.rest; obtain ⟨ao, cp, hvf⟩ := row_form hown; obtain ⟨tr, vr, hrf, _⟩ := hrest.form; subst hvf hrf))
  have h1 := HH.out.below' hO.below
  have hlt1 := h1.wr.lt_size
  have hsz := sz_fold exs rest
  rw [← hO.eq] at hsz
  have hshort := short_fold exs rest (by rw [← hO.eq]; exact HX.out)
  obtain ⟨a0, l0, hex⟩ : ∃ a0 l0, exs = a0 :: l0 := by
    cases exs with
    | nil =>
      obtain ⟨a, b, hab⟩ := HC.out
      exact absurd (by rw [← hab, hO.eq]; rfl) (hno a b)
    | cons a l => exact ⟨a, l, rfl⟩
  have hel : 1 ≤ exs.length := by rw [hex]; simp
  have hrp := szE_pos rest
  have hout : outS x 0 seen = (91 :: ((rowS exs true seen).1 ++ (restS rest (rowS exs true seen).2).1), (restS rest (rowS exs true seen).2).2) := by
    rw [hO.eq, hex, out_list]
  have hrl := row_len exs (fun y hy => (len_ok _ y (Nat.le_refl _) (shortL_mem hshort.1 y hy)).1) true seen (by omega)
  have hrest' := rest_no hno (rowS exs true seen).2
  have HOUT := hide hout
  have HR := hide hrest'
  have hneq : ∀ w' : World, (binOp .neq 164 (.iface tr vr) (.iface 262 (.string ⟨#[91, 93]⟩))).run Tryz.prog w' = .ok (.bool (!isNilS rest)) w' := rest_neq hrest
  have HB := hide (byte_w h1 91 (by omega))
  obtain ⟨q, hq⟩ : ∃ q, q = rowS exs true seen := ⟨_, rfl⟩
  have HI := hide (fun (w2 : World) (bv2 : Value) (h2 : WOn w0 vbs w2 wb mb (out ++ [91]) bv2 seen) (f2 : WFr wb mb bv bv2 w1 w2) => inRow_c exs (fun y hy => ⟨HA.out y (by have := szL_mem hy; omega) (shortL_mem hshort.1 y hy), shortL_mem hshort.1 y hy⟩) (v := .slice ao exs.length cp) (us := us) (n1 := w.heap.size) h2 (hO.rep.frame (h1.wr.tkeeps f2) (fun _ _ _ => trivial) (List.prefix_refl _)) (own_tk hown (h1.wr.tkeeps f2)) (by simp only [List.length_append, List.length_singleton]; omega) (by omega) (by omega))
  rw [← hq] at HI HOUT HR hrl
  have HREST := hide hrest
  have HHO := hide hO
  have HS2 := hide hshort.2
  clear hO hown hrest hshort hex hout hrest' hq hno
  unfold ptrV at *
  go_upto_region 3 with (first | (go_at_call 173; refine HB.out.mono ?_; rintro e w2 ⟨v2, bv2, rfl, h2, f2⟩) | (go_at_call 174; refine (HI.out _ _ h2 f2).mono ?_; rintro e w3 ⟨rfl, bv3, h3, f3⟩))
  have hlt3 := h3.wr.lt_size
  have hf13 : WFr wb mb bv bv3 w1 w3 := f2.trans f3
  have hrep3 : TRep w3 (fun _ => True) vbs rest (.iface tr vr) := HREST.out.frame (h1.wr.tkeeps hf13) (fun _ _ _ => trivial) (List.prefix_refl _)
  have HREP3 := hide hrep3
  clear hrep3
  cases hnil : isNilS rest with
  | true =>
    rw [hnil] at hneq HR
    simp only [Bool.not_true] at hneq
    have HB3 := hide (byte_w h3 93 (by simp only [List.length_append, List.length_singleton]; omega))
    unfold ptrV at *
    go_wp2_with (first | (go_at_call 173; refine HB3.out.mono ?_; rintro e w4 ⟨v4, bv4, rfl, h4, f4⟩))
    go_end0
    refine WPost.mk' h4 ((WFr.of_below HHO.out.below).trans (hf13.trans f4)) ?_ ?_
    · rw [HOUT.out, HR.out]; simp
    · rw [HOUT.out, HR.out]; simp
  | false =>
    rw [hnil] at hneq HR
    simp only [Bool.not_false] at hneq
    have hlr := (len_ok _ rest (Nat.le_refl _) HS2.out).1 0 q.2 (by omega)
    have HB3 := hide (byte_w h3 124 (by simp only [List.length_append, List.length_singleton]; omega))
    have HT := hide (fun (w4 : World) (bv4 : Value) (h4 : WOn w0 vbs w4 wb mb (out ++ [91] ++ q.1 ++ [124]) bv4 q.2) (f4 : WFr wb mb bv3 bv4 w3 w4) => HA.out rest (by omega) HS2.out w4 wb mb _ bv4 q.2 (.iface tr vr) h4 (HREP3.out.frame (h3.wr.tkeeps f4) (fun _ h _ => h) (List.prefix_refl _)) (by simp only [List.length_append, List.length_singleton]; omega) (by omega))
    have HB5 := hide (fun (w5 : World) (bv5 : Value) (sn : List Nat) (h5 : WOn w0 vbs w5 wb mb (out ++ [91] ++ q.1 ++ [124] ++ (outS rest 0 q.2).1) bv5 sn) => byte_w h5 93 (by simp only [List.length_append, List.length_singleton]; omega))
    unfold ptrV at *
    go_upto_region 6 with (first | (go_at_call 173; refine HB3.out.mono ?_; rintro e w4 ⟨v4, bv4, rfl, h4, f4⟩) | (go_at_call 109; refine (HT.out _ _ h4 f4).mono ?_; rintro e w5 ⟨rfl, bv5, h5, f5⟩))
    have hlt5 := h5.wr.lt_size
    go_wp2_with (first | (go_at_call 173; refine (HB5.out _ _ _ h5).mono ?_; rintro e w6 ⟨v6, bv6, rfl, h6, f6⟩))
    go_end0
    refine WPost.mk' h6 ((WFr.of_below HHO.out.below).trans (hf13.trans (f4.trans (f5.trans f6)))) ?_ ?_
    · rw [HOUT.out, HR.out]; simp
    · rw [HOUT.out, HR.out]; simp

end Go.Proofs.YtdigbgbmfjggnaaGreatDoor

namespace Go.Proofs.YtdigbgbmfjggnaaGreatDoor
open Go.RowKit Go.Shelf

/-! Names with arguments; the writer whole. -/

theorem out_plain {n : ByteArray} {args : List Ex} (hc : ¬ (n = B [46] ∧ args.length = 2)) (ho : ¬ strOf (.cmp n args) < 3) (s : List Nat) :
    outS (.cmp n args) 0 s = (n.data.toList ++ [40] ++ (rowS args true s).1 ++ [41], (rowS args true s).2) := by
  match args with
  | [] => rw [outS] <;> simp
  | [a] => rw [outS] <;> simp
  | a :: b :: c :: l => rw [outS] <;> simp
  | [a, b] =>
    have hs : strOf (.cmp n [a, b]) = ssS n := by rw [strOf]; simp
    rw [hs, ssS_pow] at ho
    have hr := powS_range n
    have hp : ¬ 0 < powS n 2 := fun h => ho (by rw [if_pos h]; omega)
    have hd : ¬ n = B [46] := fun e => hc ⟨e, rfl⟩
    rw [outS, if_neg hp, if_neg hd, rowS, rowS, rowS]
    simp

theorem op_args {n : ByteArray} {args : List Ex} (ho : strOf (.cmp n args) < 3) : (∃ a b, args = [a, b]) ∧ 0 < powS n 2 := by
  rw [strOf] at ho
  have hr := powS_range n
  split at ho
  · rename_i h2
    refine ⟨?_, ?_⟩
    · match args, h2 with
      | [a, b], _ => exact ⟨a, b, rfl⟩
    · rw [ssS_pow] at ho
      split at ho
      · assumption
      · omega
  · omega

set_option maxRecDepth 100000 in
set_option maxHeartbeats 4000000 in
theorem compound_c {w0 : World} {vbs : List Nat} {n : ByteArray} {args : List Ex} (hA : ∀ y, szE y < szE (.cmp n args) → short y → WrOk w0 vbs y) (hxs : short (.cmp n args)) {w : World} {wb mb : Nat} {out : List UInt8} {bv : Value} {seen : List Nat} {g : Nat}
    (h : WOn w0 vbs w wb mb out bv seen) (hT : TRep w (fun _ => True) vbs (.cmp n args) (.iface 269 (ptrV g))) (hb1 : out.length + 2100 * szE (.cmp n args) ≤ 300000040) (hb2 : seen.length + szE (.cmp n args) ≤ 100000) :
    Calls Tryz.prog 141 #[ptrV wb, ptrV g] w fun e w' => WPost w0 vbs wb mb out bv w (outS (.cmp n args) 0 seen) e w' := by
  have HIO := hide (isOperation_c hT)
  have HT := hide hT
  have hszx : szE (.cmp n args) = 1 + szL args := by rw [szE]
  have hns : n.size ≤ 2000 := hxs.1
  have hsl : shortL args := hxs.2
  have HH := hide h
  have hlt := h.wr.lt_size
  have hal : args.length ≤ szL args := by
    clear hA hxs hT h HIO HT hb1 hb2 hszx hns hsl HH
    induction args with
    | nil => simp
    | cons a l ih => rw [szL]; have := szE_pos a; simp; omega
  obtain ⟨g', hg', ga, cap, cur, us, hg, ha, hc, hm, hs, hu, hr⟩ : ∃ g', (Value.iface 269 (ptrV g)) = (.iface 269 (ptrV g')) ∧ ∃ ga cap cur us, CompAt w g' n ga args.length cap ∧ w.heap[ga]? = some (.cells cur 164 (0, 0)) ∧ args.length ≤ cap ∧ cap ≤ maxLen ∧ cur.size = cap ∧ cur.toList.take args.length = us ∧ TRepL w (fun _ => True) vbs args us := by
    generalize hv : (Value.iface 269 (ptrV g)) = v at hT
    cases hT with
    | cmp n args g' ga cap cur us hg ho ha hc hm hs hu hr => exact ⟨g', rfl, ga, cap, cur, us, hg, ha, hc, hm, hs, hu, hr⟩
  have hgg : g = g' := by
    unfold ptrV at hg'
    injection hg' with _ hg'
    injection hg' with hg'
    injection hg' with hg'
    injection hg'
  subst hgg
  have HIC := hide (isCell_c hg (by omega))
  by_cases hcell : n = B [46] ∧ args.length = 2
  · rw [decide_eq_true hcell] at HIC
    have HL := hide (listW_c hA hxs (by
      obtain ⟨hn, h2⟩ := hcell
      match args, h2 with
      | [a, b], _ => exact ⟨a, b, by rw [hn]; rfl⟩) h hT hb1 hb2)
    clear hA hxs hT h hg ha hc hm hs hu hr hcell hg'
    unfold ptrV at *
    go_enter Tryz.func141, Tryz.ntmps141
    go_wp2_with (first | (go_at_call 169; refine HIC.out.mono ?_; rintro e w1 ⟨rfl, rfl⟩) | (go_at_call 170; refine HL.out.mono ?_; rintro e w2 ⟨rfl, h2⟩))
    go_end0
    exact ⟨rfl, h2⟩
  · rw [decide_eq_false hcell] at HIC
    by_cases hop : strOf (.cmp n args) < 3
    · rw [decide_eq_true hop] at HIO
      obtain ⟨⟨a, b, rfl⟩, hp⟩ := op_args hop
      have hsab : szE (.cmp n [a, b]) = 1 + szE a + szE b := by simp [szE, szL]; omega
      cases hr with
      | cons _ _ ua us2 hTa hr2 =>
      cases hr2 with
      | cons _ _ ub us3 hTb hr3 =>
      cases hr3
      have HO := hide (operation_c (hA a (by omega) hsl.1) (hA b (by omega) hsl.2.1) hsl.1 hsl.2.1 hns hp h hg ha hu hTa hTb (by omega) (by omega))
      clear hA hxs hT h hg ha hc hm hs hu hTa hTb hcell hop hg'
      unfold ptrV at *
      go_enter Tryz.func141, Tryz.ntmps141
      go_wp2_with (first | (go_at_call 169; refine HIC.out.mono ?_; rintro e w1 ⟨rfl, rfl⟩) | (go_at_call 171; refine HIO.out.mono ?_; rintro e w1 ⟨rfl, rfl⟩) | (go_at_call 172; refine HO.out.mono ?_; rintro e w2 ⟨rfl, h2⟩))
      go_end0
      exact ⟨rfl, h2⟩
    · rw [decide_eq_false hop] at HIO
      rw [out_plain hcell hop]
      have hrl := row_len args (fun y hy => (len_ok _ y (Nat.le_refl _) (shortL_mem hsl y hy)).1) true seen (by omega)
      obtain ⟨q, hq⟩ : ∃ q, q = rowS args true seen := ⟨_, rfl⟩
      have hown : w.ownsRow 0 164 1 (.slice (some ⟨ga, 0, none⟩) args.length cap) args.length us := ⟨by rw [hr.len]; omega, .inr ⟨ga, cap, cur, rfl, Nat.zero_le _, ha, hc, hm, by omega, by rw [Nat.mul_one]; exact hu⟩⟩
      have HS := hide (str_w (HH.out.below' (Below.refl _ _).drew) n (by omega))
      have c0 : w.drew.cell? ⟨g, 0, none⟩ = some (.string n) := by
        have := cell_of_block hg 0
        exact this
      have hgl : g < w.heap.size := (Array.getElem?_eq_some_iff.1 hg).1
      have HK : Hid (∀ w1 bv1, WFr wb mb bv bv1 w.drew w1 → TKeeps (fun _ => True) w w1) := fun w1 bv1 f1 => ((HH.out.below' (Below.refl _ _).drew).wr.tkeeps (Ok := fun _ => True) f1)
      have HB := hide (fun (w2 : World) (bv2 : Value) (h2 : WOn w0 vbs w2 wb mb (out ++ n.data.toList) bv2 seen) => byte_w h2 40 (by simp only [List.length_append, Array.length_toList]; exact Nat.le_trans (Nat.add_le_add_right (Nat.add_le_add_left hns _) _) (by omega)))
      have hnl : n.data.toList.length ≤ 2000 := hns
      have HI := hide (fun (w3 : World) (bv3 : Value) (h3 : WOn w0 vbs w3 wb mb (out ++ n.data.toList ++ [40]) bv3 seen) (f3 : WFr wb mb bv bv3 w.drew w3) => inRow_c args (fun y hy => ⟨hA y (by have := szL_mem hy; omega) (shortL_mem hsl y hy), shortL_mem hsl y hy⟩) h3 (hr.frame (HK.out _ _ f3) (fun _ h _ => h) (List.prefix_refl _)) (own_tk hown (HK.out _ _ f3)) (by simp only [List.length_append, List.length_singleton]; omega) (by omega) (by omega))
      rw [← hq] at HI hrl ⊢
      have HB5 := hide (fun (w5 : World) (bv5 : Value) (sn : List Nat) (h5 : WOn w0 vbs w5 wb mb (out ++ n.data.toList ++ [40] ++ q.1) bv5 sn) => byte_w h5 41 (by simp only [List.length_append, List.length_singleton]; omega))
      have HG := hide hg
      clear hA hxs hT h hg ha hc hm hs hu hr hcell hop hown hq hg'
      unfold ptrV at *
      go_enter Tryz.func141, Tryz.ntmps141
      go_wp2_with (first | (go_at_call 169; refine HIC.out.mono ?_; rintro e w1 ⟨rfl, rfl⟩) | (go_at_call 171; refine HIO.out.mono ?_; rintro e w1 ⟨rfl, rfl⟩))
      go_region_with (first | (go_at_call 137; refine HS.out.mono ?_; rintro e w2 ⟨v2, bv2, rfl, h2, f2⟩))
      have hlt2 := h2.wr.lt_size
      go_upto_region 2 with (first | (go_at_call 173; refine (HB.out _ _ h2).mono ?_; rintro e w3 ⟨v3, bv3, rfl, h3, f3⟩))
      have hlt3 := h3.wr.lt_size
      have hg3 := HK.out _ _ (f2.trans f3) g _ _ (.inl rfl) HG.out
      have hgl3 : g < w3.heap.size := (Array.getElem?_eq_some_iff.1 hg3).1
      have c13 : w3.cell? ⟨g, 1, none⟩ = some (.slice (some ⟨ga, 0, none⟩) args.length cap) := by rw [cell_of_block hg3]; rfl
      go_upto_region 3 with (first | (go_at_call 174; refine (HI.out _ _ h3 (f2.trans f3)).mono ?_; rintro e w4 ⟨rfl, bv4, h4, f4⟩))
      have hlt4 := h4.wr.lt_size
      go_wp2_with (first | (go_at_call 173; refine (HB5.out _ _ _ h4).mono ?_; rintro e w5 ⟨v5, bv5, rfl, h5, f5⟩))
      go_end0
      exact WPost.mk' h5 ((WFr.of_below (Below.refl _ _).drew).trans (f2.trans (f3.trans (f4.trans f5)))) (by simp) rfl

end Go.Proofs.YtdigbgbmfjggnaaGreatDoor

namespace Go.Proofs.YtdigbgbmfjggnaaGreatDoor
open Go.RowKit Go.Shelf

/-! The writer whole: term.Form. -/

set_option maxRecDepth 100000 in
set_option maxHeartbeats 1000000 in
theorem term_cmp {w0 : World} {vbs : List Nat} {n : ByteArray} {args : List Ex} (hA : ∀ y, szE y < szE (.cmp n args) → short y → WrOk w0 vbs y) (hxs : short (.cmp n args)) : WrOk w0 vbs (.cmp n args) := by
  intro w wb mb out bv seen u h hT hb1 hb2
  obtain ⟨g, rfl⟩ : ∃ g, u = .iface 269 (ptrV g) := by cases hT; exact ⟨_, rfl⟩
  have HC := hide (compound_c hA hxs h hT hb1 hb2)
  have tCA := Tryz.taCA
  have tCN := Tryz.taCN
  have tCV := Tryz.taCV
  have tCC := Tryz.taCC
  clear h hT hA hxs
  unfold ptrV at *
  go_enter Tryz.func109, Tryz.ntmps109
  go_wp2_with (first | (go_at_call 141; refine HC.out.mono ?_; rintro e w2 ⟨rfl, h2⟩))
  go_end0
  exact ⟨rfl, h2⟩

theorem term_all {w0 : World} {vbs : List Nat} (hC : WCtx w0 vbs) : ∀ (m : Nat) (x : Ex), szE x ≤ m → short x → WrOk w0 vbs x
  | 0, x, h, _ => by have := szE_pos x; omega
  | m + 1, .atom n, _, hs => term_atom w0 vbs n hs
  | m + 1, .num v, _, hs => term_num w0 vbs hC v hs.1 hs.2
  | m + 1, .var k, _, _ => term_var w0 vbs hC k
  | m + 1, .cmp n args, h, hs => term_cmp (fun y hy hys => term_all hC m y (by omega) hys) hs

set_option maxRecDepth 100000 in
set_option maxHeartbeats 1000000 in
theorem text_c {w : World} {wb mb n0 : Nat} {out : List UInt8} {bv : Value} {ks : List Nat} (h : WrIn w wb mb n0 out bv ks) (hn : n0 ≤ w.heap.size) (hsm : out.length ≤ 140737488355328) :
    Calls Tryz.prog 110 #[ptrV wb] w fun e w' => e = .returned (.string (B out)) ∧ Below n0 w w' := by
  have HS := hide (builderString_c h hn hsm)
  have hlt := h.lt_size
  clear h
  unfold ptrV at *
  go_enter Tryz.func110, Tryz.ntmps110
  go_wp2_with (first | (go_at_call 142; refine HS.out.mono ?_; rintro e w1 ⟨rfl, hB⟩))
  go_ret
  exact ⟨rfl, hB⟩

set_option maxRecDepth 100000 in
set_option maxHeartbeats 1000000 in
theorem form_c {w : World} {vbs : List Nat} (hC : WCtx w vbs) {x : Ex} {u : Value} (hT : TRep w (fun _ => True) vbs x u) (hx : szE x ≤ 2001) (hs : short x) :
    Calls Tryz.prog 75 #[u] w fun e w' => e = .returned (.string (B (outS x 0 []).1)) ∧ Below w.heap.size w w' := by
  have hlen := (len_ok _ x (Nat.le_refl _) hs).1 0 [] (by simp; omega)
  have hW := term_all hC _ x (Nat.le_refl _) hs
  have HN := hide (newWriter_c w)
  obtain ⟨tu, vu, rfl, _⟩ := hT.form
  have HT : Hid (∀ (w1 : World) (wb mb : Nat), WrIn w1 wb mb w.heap.size [] (.slice none 0 0) [] → Below w.heap.size w w1 → Calls Tryz.prog 109 #[ptrV wb, .iface tu vu] w1 fun e w' => WPost w vbs wb mb [] (.slice none 0 0) w1 (outS x 0 []) e w') := fun w1 wb mb h1 hB =>
    hW w1 wb mb [] _ [] _ ⟨h1, fun k hk => by simp at hk, hB⟩ (hT.frame (fun b cs T _ hb => (hB.block b (Array.getElem?_eq_some_iff.1 hb).1).trans hb) (fun _ h _ => h) (List.prefix_refl _)) (by simp; omega) (by simp; omega)
  have HX := hide (fun (w2 : World) (wb mb : Nat) (bv2 : Value) (sn : List Nat) (h2 : WOn w vbs w2 wb mb ([] ++ (outS x 0 []).1) bv2 sn) => text_c h2.wr h2.below.size (by simp only [List.nil_append]; omega))
  clear hT hW hC
  unfold ptrV at *
  go_enter Tryz.func75, Tryz.ntmps75
  go_wp2_with (first | (go_at_call 108; refine HN.out.mono ?_; rintro e w1 ⟨wb, mb, rfl, h1, hB1⟩) | (go_at_call 109; refine (HT.out _ _ _ h1 hB1).mono ?_; rintro e w2 ⟨rfl, bv2, h2, f2⟩) | (go_at_call 110; refine (HX.out _ _ _ _ _ h2).mono ?_; rintro e w3 ⟨rfl, hB3⟩))
  go_ret
  exact ⟨rfl, h2.below.trans hB3⟩

theorem tab_below {w w' : World} (ht : Lib.TabIs Tryz.prog w "internal/strconv.uint64pow10" .u64 Lib.pow10Tab) {n : Nat} (hn : 5 ≤ n) (hB : Below n w w') : Lib.TabIs Tryz.prog w' "internal/strconv.uint64pow10" .u64 Lib.pow10Tab := by
  unfold Lib.TabIs World.var? at *
  rw [show Tryz.prog.globalNamed "internal/strconv.uint64pow10" = some 2 by kernel_rfl, Option.bind_some] at *
  rw [hB.block _ (Nat.lt_of_lt_of_le (by decide) hn)]
  exact ht

theorem form_ok (s : ByteArray) (w : World) (ht : Lib.TabIs Tryz.prog w "internal/strconv.uint64pow10" .u64 Lib.pow10Tab) (hng : 5 ≤ w.heap.size) : FormOk s w := by
  intro w1 x vars u vbs hB hts hT hl hn hv
  obtain ⟨h1, h2, h3⟩ := term_got hts
  exact form_c ⟨hv, hn, fun w2 hB2 => tab_below ht hng (hB.trans (hB2.mono hB.size))⟩ hT h1 h2

end Go.Proofs.YtdigbgbmfjggnaaGreatDoor
