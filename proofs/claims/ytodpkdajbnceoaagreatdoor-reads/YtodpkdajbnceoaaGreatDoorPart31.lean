import Derived.Test.YtodpkdajbnceoaaGreatDoorPart22
import Derived.Test.YtodpkdajbnceoaaGreatDoorShelf
import Derived.Lib.AppendIntMem
import Derived.Deep.RegionWith
set_option linter.unusedVariables false
set_option linter.unusedSimpArgs false
namespace Go.Proofs.YtodpkdajbnceoaaGreatDoor
open Go.RowKit Go.Shelf

/-! Rows of terms are written. -/

structure WCtx (w0 : World) (vbs : List Nat) : Prop where
  vb : VarBlks w0 vbs
  nd : vbs.Nodup
  tab : ∀ w, Below w0.heap.size w0 w → Lib.TabIs Tryz.prog w "internal/strconv.uint64pow10" .u64 Lib.pow10Tab

structure WOn (w0 : World) (vbs : List Nat) (w : World) (wb mb : Nat) (out : List UInt8) (bv : Value) (seen : List Nat) : Prop where
  wr : WrIn w wb mb w0.heap.size out bv (seen.map fun k => vbs.getD k 0)
  seen : ∀ k, k ∈ seen → k < vbs.length
  below : Below w0.heap.size w0 w

def WPost (w0 : World) (vbs : List Nat) (wb mb : Nat) (out : List UInt8) (bv : Value) (w : World) (r : List UInt8 × List Nat) (e : Ending) (w' : World) : Prop :=
  e = .returned (.tuple #[]) ∧ ∃ bv', WOn w0 vbs w' wb mb (out ++ r.1) bv' r.2 ∧ WFr wb mb bv bv' w w'

theorem WPost.mk' {w0 : World} {vbs : List Nat} {wb mb : Nat} {out out' : List UInt8} {bv bv' : Value} {w w' : World} {r : List UInt8 × List Nat} {sn : List Nat} (h : WOn w0 vbs w' wb mb out' bv' sn) (hf : WFr wb mb bv bv' w w') (h1 : out' = out ++ r.1) (h2 : sn = r.2) : WPost w0 vbs wb mb out bv w r (.returned (.tuple #[])) w' :=
  ⟨rfl, bv', by rw [← h1, ← h2]; exact h, hf⟩

section
variable {w0 : World} {vbs : List Nat} {w : World} {wb mb : Nat} {out : List UInt8} {bv : Value} {seen : List Nat}

theorem WFr.toBelow {n0 : Nat} {bv' : Value} {w' : World} {ks : List Nat} (h : WrIn w wb mb n0 out bv ks) (hn : n0 ≤ w.heap.size) (hf : WFr wb mb bv bv' w w') : Below n0 w w' :=
  ⟨hf.os, hf.tape, hf.output, hf.size, fun b hb => hf.block b (by omega) (fun e => by have := h.nm; omega) (fun e => by have := h.nw; omega) (fun e => by have := (h.buf.lt b e).1; omega)⟩

theorem WrIn.tkeeps {n0 : Nat} {bv' : Value} {w' : World} {ks : List Nat} {Ok : Nat → Prop} (h : WrIn w wb mb n0 out bv ks) (hf : WFr wb mb bv bv' w w') : TKeeps Ok w w' := by
  intro b cs T hT0 hb
  have hT : T = 399 ∨ T = 185 := hT0.elim .inl (fun h => .inr h.1)
  clear hT0
  rw [hf.block b (Array.getElem?_eq_some_iff.1 hb).1 ?_ ?_ ?_]
  · exact hb
  · rintro rfl
    rw [h.map] at hb
    injection hb with hb; cases hb
  · rintro rfl
    obtain ⟨ad, dp, _, hc⟩ := h.cells
    rw [hc] at hb
    injection hb with hb; injection hb with _ hb
    rcases hT with rfl | rfl <;> cases hb
  · intro hv
    rcases h.buf.2 with ⟨hl, _⟩ | ⟨g, cap, cur, rfl, _, r2, _⟩
    · rw [hl] at hv; cases hv
    · cases hv
      rw [r2] at hb
      injection hb with hb; injection hb with _ hb
      rcases hT with rfl | rfl <;> cases hb

/-- bytes were written -/
theorem WOn.wrote {out' : List UInt8} {bv' : Value} {w' : World} (h : WOn w0 vbs w wb mb out bv seen) (h1 : WrIn w' wb mb w0.heap.size out' bv' (seen.map fun k => vbs.getD k 0)) (hf : WFr wb mb bv bv' w w') : WOn w0 vbs w' wb mb out' bv' seen :=
  ⟨h1, h.seen, h.below.trans (hf.toBelow h.wr h.below.size)⟩

theorem WOn.below' {w' : World} (h : WOn w0 vbs w wb mb out bv seen) (hB : Below w.heap.size w w') : WOn w0 vbs w' wb mb out bv seen :=
  ⟨h.wr.below hB, h.seen, h.below.trans (hB.mono h.below.size)⟩

theorem byte_w (h : WOn w0 vbs w wb mb out bv seen) (c : UInt8) (hs : out.length + 1 ≤ 300000000) :
    Calls Tryz.prog 161 #[ptrV wb, .int .u8 c.toNat] w fun e w' => ∃ v bv', e = .returned v ∧ WOn w0 vbs w' wb mb (out ++ [c]) bv' seen ∧ WFr wb mb bv bv' w w' :=
  (writeByte_c h.wr c (by omega)).mono fun e w' ⟨v, hv, bv', h1, h2⟩ => ⟨v, bv', hv, h.wrote h1 h2, h2⟩

theorem str_w (h : WOn w0 vbs w wb mb out bv seen) (s : ByteArray) (hs : out.length + s.size ≤ 300000000) :
    Calls Tryz.prog 114 #[ptrV wb, .string s] w fun e w' => ∃ v bv', e = .returned v ∧ WOn w0 vbs w' wb mb (out ++ s.data.toList) bv' seen ∧ WFr wb mb bv bv' w w' :=
  (writeString_c h.wr s (by omega)).mono fun e w' ⟨v, hv, bv', h1, h2⟩ => ⟨v, bv', hv, h.wrote h1 h2, h2⟩
end

def WrOk (w0 : World) (vbs : List Nat) (x : Ex) : Prop :=
  ∀ (w : World) (wb mb : Nat) (out : List UInt8) (bv : Value) (seen : List Nat) (u : Value), WOn w0 vbs w wb mb out bv seen → TRep w (fun _ => True) vbs x u → out.length + 2100 * szE x ≤ 300000040 → seen.length + szE x ≤ 100000 →
    Calls Tryz.prog 142 #[ptrV wb, u] w fun e w' => WPost w0 vbs wb mb out bv w (outS x 0 seen) e w'

/-- how deep it is, is set -/
theorem WOn.dep {w0 : World} {vbs : List Nat} {w : World} {wb mb : Nat} {out : List UInt8} {bv : Value} {seen : List Nat} (h : WOn w0 vbs w wb mb out bv seen) (z : Int) :
    WOn w0 vbs (w.setCell ⟨wb, 4, none⟩ (.int .i64 z)) wb mb out bv seen ∧ WFr wb mb bv bv w (w.setCell ⟨wb, 4, none⟩ (.int .i64 z)) := by
  have hne : ∀ b, b ≠ wb → (w.setCell ⟨wb, 4, none⟩ (.int .i64 z)).heap[b]? = w.heap[b]? := fun b hb => Below.heap_setCell _ _ _ _ hb
  obtain ⟨ad, dp, h1, h2⟩ := h.wr.cells
  have hf : WFr wb mb bv bv w (w.setCell ⟨wb, 4, none⟩ (.int .i64 z)) := ⟨rfl, rfl, rfl, by simp [World.setCell], fun b _ _ q _ => hne b q, fun _ e => .inl e⟩
  exact ⟨h.wrote ⟨⟨ad, z, h1, by rw [heap_setCell_same h2]; rfl⟩, ownsRow_keep h.wr.buf fun b e => hne b fun q => h.wr.bne (by rw [e, q]), (hne mb h.wr.wnm.symm).trans h.wr.map, h.wr.nw, h.wr.nm⟩ hf, hf⟩

/-- what is read of the writer at a term's beginning and end -/
theorem WOn.deep {w0 : World} {vbs : List Nat} {w : World} {wb mb : Nat} {out : List UInt8} {bv : Value} {seen : List Nat} (h : WOn w0 vbs w wb mb out bv seen) :
    ∃ dp, w.cell? ⟨wb, 3, none⟩ = some cntV ∧ w.cell? ⟨wb, 4, none⟩ = some (.int .i64 dp) ∧ w.frozen? ⟨wb, 4, none⟩ = false ∧ wb < w.heap.size := by
  obtain ⟨ad, dp, h1, h2⟩ := h.wr.cells
  exact ⟨dp, by rw [cell_of_block h2]; rfl, by rw [cell_of_block h2]; rfl, h.wr.fz 4, h.wr.lt_size⟩

theorem WOn.vbl {w0 : World} {vbs : List Nat} {w : World} {wb mb : Nat} {out : List UInt8} {bv : Value} {seen : List Nat} (h : WOn w0 vbs w wb mb out bv seen) (hC : WCtx w0 vbs) : VarBlks w vbs := fun c hc => by
  obtain ⟨n, k, hn⟩ := hC.vb c hc
  exact ⟨n, k, (h.below.block c (Array.getElem?_eq_some_iff.1 hn).1).trans hn⟩

set_option maxRecDepth 100000 in
set_option maxHeartbeats 400000 in
theorem cnt_c (d : Int) (w : World) : Calls Tryz.prog 141 #[.int .i64 d] w fun e w' => e = .returned (.tuple #[]) ∧ w' = w := by
  go_enter Tryz.func141, Tryz.ntmps141
  go_wp2
  go_end0
  exact ⟨rfl, rfl⟩

structure RowWr (w0 : World) (vbs : List Nat) (w : World) (wb mb : Nat) (out : List UInt8) (bv : Value) (l : List Ex) (r : List UInt8 × List Nat) (gk k : Nat) (out' : List UInt8) (bv' : Value) (sn : List Nat) (wr : World) : Prop where
  le : k ≤ l.length
  gk : gk = l.length - k
  on : WOn w0 vbs wr wb mb out' bv' sn
  fr : WFr wb mb bv bv' w wr
  e1 : out ++ 40 :: r.1 = out' ++ (if k = 0 then [40] else []) ++ (rowS (l.drop k) (k == 0) sn).1
  e2 : r.2 = (rowS (l.drop k) (k == 0) sn).2
  b1 : out'.length + 20 + 2100 * szL (l.drop k) ≤ 300000000
  b2 : sn.length + szL (l.drop k) ≤ 100000

def betw (k : Nat) : Value := .string (B [if k = 0 then 40 else 44])

set_option maxRecDepth 100000 in
set_option maxHeartbeats 4000000 in
theorem args_c {w0 : World} {vbs : List Nat} {w : World} {wb mb : Nat} {out : List UInt8} {bv : Value} {seen : List Nat} {n : ByteArray} {g ga cap : Nat} {cur : Array Value} {us : List Value} (l : List Ex) (hA : ∀ x, x ∈ l → WrOk w0 vbs x ∧ short x)
    (h : WOn w0 vbs w wb mb out bv seen) (hL : TRepL w (fun _ => True) vbs l us) (hg : CompAt w g n ga l.length cap) (ha : w.heap[ga]? = some (.cells cur 185 (0, 0))) (hu : cur.toList.take l.length = us) (hl0 : 0 < l.length) (hb1 : out.length + 20 + 2100 * szL l ≤ 300000000) (hb2 : seen.length + szL l ≤ 100000) (hsm : l.length ≤ 100000) :
    Calls Tryz.prog 231 #[ptrV wb, ptrV g] w fun e w' => WPost w0 vbs wb mb out bv w (40 :: ((rowS l true seen).1 ++ [41]), (rowS l true seen).2) e w' := by
  obtain ⟨r, hr⟩ : ∃ r, r = rowS l true seen := ⟨_, rfl⟩
  rw [← hr]
  have hst : RowWr w0 vbs w wb mb out bv l r l.length 0 out bv seen w := ⟨Nat.zero_le _, rfl, h, WFr.refl _ _ _ _, by rw [hr]; simp, by rw [hr]; rfl, by simpa using hb1, by simpa using hb2⟩
  have HST := hide hst
  have HA := hide hA
  have HL := hide hL
  have HG := hide hg
  have HGA := hide ha
  have HU := hide hu
  have HH := hide h
  have HAR := hide (compArity_c hg)
  clear hst hA hL hg ha hu h hb1 hb2 hr
  unfold ptrV at *
  go_enter Tryz.func231, Tryz.ntmps231
  go_wp2_with (go_at_call 280; refine HAR.out.mono ?_; rintro e w1 ⟨rfl, hw1⟩; subst w1)
  go_loopg [4, 8] l.length (fun g bt iv wr => ∃ k out' bv' sn, bt = betw k ∧ iv = .int .i64 (k : Nat) ∧ RowWr w0 vbs w wb mb out bv l r g k out' bv' sn wr)
  case atStart => exact ⟨0, out, bv, seen, rfl, rfl, HST.out⟩
  case round =>
    obtain ⟨k, out', bv', sn, rfl, rfl, hR⟩ := hrel
    have HR := hide hR
    have hgk := hR.gk
    have hkl := hR.le
    clear hR
    by_cases hk : k < l.length
    · obtain ⟨x, hx⟩ : ∃ x, x = l[k] := ⟨_, rfl⟩
      have hdr : l.drop k = x :: l.drop (k + 1) := by rw [hx]; exact List.drop_eq_getElem_cons hk
      have hxm : x ∈ l := by rw [hx]; exact List.getElem_mem hk
      obtain ⟨hxo, hxs⟩ := HA.out x hxm
      have hul := HL.out.len
      have hku : k < us.length := by omega
      have hon := HR.out.on
      have htk : TKeeps (fun _ => True) w wr := HH.out.wr.tkeeps HR.out.fr
      have hrep : TRep wr (fun _ => True) vbs x us[k] := by
        rw [hx]
        exact (HL.out.get k hk hku).frame htk (fun _ h _ => h) (List.prefix_refl _)
      obtain ⟨tx, vx, hxf, _⟩ := hrep.form
      rw [hxf] at hrep
      have hb1 := HR.out.b1
      have hb2 := HR.out.b2
      have hsz : szL (l.drop k) = szE x + szL (l.drop (k + 1)) := by rw [hdr, szL]
      have hlen := (len_ok _ x (Nat.le_refl _) hxs).1 0 sn (by omega)
      have hpx := szE_pos x
      have hus : us[k]? = some (.iface tx vx) := by rw [List.getElem?_eq_getElem hku, hxf]
      have HAG : Hid (∀ W, TKeeps (fun _ => True) w W → Calls Tryz.prog 281 #[.pointer (some ⟨g, 0, none⟩), .int .i64 k] W fun e w' => e = .returned (.iface tx vx) ∧ w' = W) := fun W hW =>
        arg_c (hW g _ _ (.inl rfl) HG.out) hk (rowCell (hW ga _ _ (.inr ⟨rfl, trivial⟩) HGA.out) HU.out hus) (Array.getElem?_eq_some_iff.1 (hW ga _ _ (.inr ⟨rfl, trivial⟩) HGA.out)).1
      have HX := hide hxo
      have HREP := hide hrep
      have HON := hide hon
      have HDR := hide hdr
      have HTK := hide htk
      have hltr := hon.wr.lt_size
      clear hx hdr hxm hxo hxs hul hon htk hrep hxf hus
      obtain ⟨bs, hbs⟩ : ∃ bs, bs = B [if k = 0 then 40 else 44] := ⟨_, rfl⟩
      have hbl : bs.data.toList.length = 1 := by rw [hbs]; rfl
      have hbz : bs.size = 1 := by rw [hbs, B_size]; rfl
      have hbt : betw k = .string bs := by rw [hbs]; rfl
      have HBS := hide hbs
      rw [hbt]
      have HB := hide (str_w HON.out bs (by omega))
      have HT := hide (fun w1 bv1 (h1 : WOn w0 vbs w1 wb mb (out' ++ bs.data.toList) bv1 sn) (f1 : WFr wb mb bv' bv1 wr w1) => HX.out w1 wb mb _ bv1 sn (.iface tx vx) h1 (HREP.out.frame (HON.out.wr.tkeeps f1) (fun _ h _ => h) (List.prefix_refl _)) (by simp only [List.length_append]; omega) (by omega))
      have HKK : Hid (∀ w1 bv1, WFr wb mb bv' bv1 wr w1 → TKeeps (fun _ => True) w w1) := fun w1 bv1 f1 => fun b cs T hT hb => HON.out.wr.tkeeps (Ok := fun _ => True) f1 b cs T hT (HTK.out b cs T hT hb)
      unfold ptrV at HT HB
      clear hbs hbt
      go_wp2_with (first | (go_at_call 114; refine HB.out.mono ?_; rintro e w1 ⟨v1, bv1, rfl, h1, f1⟩) | (go_at_call 281; refine (HAG.out _ (HKK.out _ _ f1)).mono ?_; rintro e w2 ⟨rfl, rfl⟩) | (go_at_call 142; refine (HT.out _ _ h1 f1).mono ?_; rintro e w2 ⟨rfl, bv2, h2, f2⟩))
      go_roundg (l.length - (k + 1))
      case measure => omega
      case rel =>
        have hf1 : (k + 1 == 0) = false := by simp
        refine ⟨k + 1, _, bv2, _, by simp [betw, B], by go_num, by omega, rfl, h2, (HR.out.fr.trans f1).trans f2, ?_, ?_, ?_, ?_⟩
        · rw [HR.out.e1, HDR.out, rowS, hf1]
          rw [HBS.out]
          by_cases hk0 : k = 0
          · simp [hk0, B]
          · simp [hk0, B]
        · rw [HR.out.e2, HDR.out, rowS, hf1]
        · simp only [List.length_append]; omega
        · omega
    · have hkk : k = l.length := by omega
      subst hkk
      have e1 := HR.out.e1
      have e2 := HR.out.e2
      rw [List.drop_length, rowS] at e1 e2
      rw [if_neg (by omega)] at e1
      have hb1 := HR.out.b1
      have HB := hide (byte_w HR.out.on 41 (by omega))
      have hltr := HR.out.on.wr.lt_size
      unfold ptrV at HB
      go_wp2_with (first | (go_at_call 161; refine HB.out.mono ?_; rintro e w1 ⟨v1, bv1, rfl, h1, f1⟩))
      go_end0
      refine WPost.mk' h1 (HR.out.fr.trans f1) ?_ e2.symm
      have : out' = out ++ 40 :: r.1 := by rw [e1]; simp
      rw [this]
      simp

end Go.Proofs.YtodpkdajbnceoaaGreatDoor

namespace Go.Proofs.YtodpkdajbnceoaaGreatDoor
open Go.RowKit Go.Shelf

/-! Names, numbers and variables are written. -/

theorem dec_eq (n : Nat) : Lib.decDigits n = decN n := by
  induction n using Nat.strongRecOn with
  | ind n ih =>
    rw [Lib.decDigits, decN]
    split
    · rename_i h; simp [dg, Nat.add_comm]
    · rename_i h; rw [ih (n / 10) (by omega)]; simp [dg, Nat.add_comm]

theorem itoa_eq (v : Int) : Lib.itoa v = decS v := by
  unfold Lib.itoa decS
  split
  · rw [dec_eq]
  · rename_i h
    rw [dec_eq, show v.toNat = v.natAbs by omega]

theorem nodup_inj : ∀ {l : List Nat}, l.Nodup → ∀ {i j : Nat} (hi : i < l.length) (hj : j < l.length), l[i] = l[j] → i = j
  | [], _, i, j, hi, _, _ => absurd hi (by simp)
  | a :: l, hn, 0, 0, _, _, _ => rfl
  | a :: l, hn, 0, j + 1, _, hj, e => by
    have h := (List.nodup_cons.1 hn).1
    have e' : a = l[j]'(by simpa using hj) := by simpa using e
    exact absurd (by rw [e']; exact List.getElem_mem _) h
  | a :: l, hn, i + 1, 0, hi, _, e => by
    have h := (List.nodup_cons.1 hn).1
    have e' : l[i]'(by simpa using hi) = a := by simpa using e
    exact absurd (by rw [← e']; exact List.getElem_mem _) h
  | a :: l, hn, i + 1, j + 1, hi, hj, e => by
    exact congrArg (· + 1) (nodup_inj (List.nodup_cons.1 hn).2 (by simpa using hi) (by simpa using hj) (by simpa using e))

theorem idx_map (vbs : List Nat) (hn : vbs.Nodup) {k : Nat} (hk : k < vbs.length) : ∀ (seen : List Nat), (∀ j, j ∈ seen → j < vbs.length) → (seen.map fun j => vbs.getD j 0).idxOf? (vbs.getD k 0) = seen.idxOf? k
  | [], _ => rfl
  | j :: l, h => by
    have hj := h j List.mem_cons_self
    have ih := idx_map vbs hn hk l (fun i hi => h i (List.mem_cons_of_mem _ hi))
    have e : (vbs.getD j 0 == vbs.getD k 0) = (j == k) := by
      rw [Bool.eq_iff_iff, beq_iff_eq, beq_iff_eq, List.getD_eq_getElem?_getD, List.getD_eq_getElem?_getD, List.getElem?_eq_getElem hj, List.getElem?_eq_getElem hk, Option.getD_some, Option.getD_some]
      exact ⟨fun q => nodup_inj hn hj hk q, fun q => by subst q; rfl⟩
    rw [List.map_cons, List.idxOf?_cons, List.idxOf?_cons, e, ih]

theorem num_var (vbs : List Nat) (hn : vbs.Nodup) {k : Nat} (hk : k < vbs.length) (seen : List Nat) (h : ∀ j, j ∈ seen → j < vbs.length) :
    (varOut k seen).1 = 95 :: decN (numOf (seen.map fun j => vbs.getD j 0) (vbs.getD k 0)).1 ∧ (numOf (seen.map fun j => vbs.getD j 0) (vbs.getD k 0)).2 = (varOut k seen).2.map (fun j => vbs.getD j 0) ∧ ∀ j, j ∈ (varOut k seen).2 → j < vbs.length := by
  unfold numOf varOut
  rw [idx_map vbs hn hk seen h]
  cases seen.idxOf? k with
  | some i => exact ⟨rfl, rfl, h⟩
  | none =>
    refine ⟨by simp, by simp, fun j hj => ?_⟩
    rcases List.mem_append.1 hj with hj | hj
    · exact h j hj
    · rw [List.mem_singleton.1 hj]; exact hk

/-- a term's beginning: counted, one deeper, and told what it is by now -/
theorem WOn.begin {w0 : World} {vbs : List Nat} {w : World} {wb mb : Nat} {out : List UInt8} {bv : Value} {seen : List Nat} {x : Ex} {u : Value} (h : WOn w0 vbs w wb mb out bv seen) (hC : WCtx w0 vbs) (hT : TRep w (fun _ => True) vbs x u) (nq : Nat) (z : Int) :
    WOn w0 vbs ((w.drewN nq).setCell ⟨wb, 4, none⟩ (.int .i64 z)) wb mb out bv seen ∧ WFr wb mb bv bv w ((w.drewN nq).setCell ⟨wb, 4, none⟩ (.int .i64 z)) ∧ TRep ((w.drewN nq).setCell ⟨wb, 4, none⟩ (.int .i64 z)) (fun _ => True) vbs x u ∧
    Calls Tryz.prog 182 #[u] ((w.drewN nq).setCell ⟨wb, 4, none⟩ (.int .i64 z)) fun e w' => e = .returned u ∧ w' = (w.drewN nq).setCell ⟨wb, 4, none⟩ (.int .i64 z) := by
  have hd := h.below' (below_drewN (Below.refl _ _) nq)
  obtain ⟨h1, h2⟩ := hd.dep z
  have hf : WFr wb mb bv bv w ((w.drewN nq).setCell ⟨wb, 4, none⟩ (.int .i64 z)) := (WFr.of_below (below_drewN (Below.refl _ _) nq)).trans h2
  have hT' := hT.frame (Ok' := fun _ => True) (h.wr.tkeeps hf) (fun _ h _ => h) (List.prefix_refl _)
  exact ⟨h1, hf, hT', resolve_c hT' (h1.vbl hC)⟩

set_option maxRecDepth 100000 in
set_option maxHeartbeats 1000000 in
theorem term_atom (w0 : World) (vbs : List Nat) (hC : WCtx w0 vbs) (n : ByteArray) (hn : n.size ≤ 2000) : WrOk w0 vbs (.atom n) := by
  intro w wb mb out bv seen u h hT hb1 hb2
  have HBG := hide (h.begin hC hT)
  cases hT
  have HW := hide (fun w1 (h1 : WOn w0 vbs w1 wb mb out bv seen) => str_w h1 n (by simp [szE] at hb1; omega))
  have HCN := hide cnt_c
  have tAA := Tryz.taAA
  obtain ⟨dp, c3, c4, f4, hlt⟩ := h.deep
  clear h
  unfold ptrV at *
  unfold cntV at c3
  go_enter Tryz.func142, Tryz.ntmps142
  go_wp2
  go_quiet ((go_at_call 141; exact Calls.quiet_of_same (HCN.out _ _)))
  go_upto_region 15 with (first | (go_at_call 182; refine (HBG.out _ _).2.2.2.mono ?_; rintro e w1 ⟨rfl, rfl⟩) | (go_at_call 114; refine (HW.out _ (HBG.out _ _).1).mono ?_; rintro e w1 ⟨v1, bv1, rfl, h1, f1⟩))
  obtain ⟨dp1, _, c4', f4', hlt'⟩ := h1.deep
  have HDP := hide h1.dep
  go_wp2
  go_end0
  exact WPost.mk' (HDP.out _).1 ((HBG.out _ _).2.1.trans (f1.trans (HDP.out _).2)) (by rw [outS]) (by rw [outS])

theorem formatInt_c (v : Int) (h0 : -9223372036854775808 ≤ v) (h1 : v ≤ 9223372036854775807) (w : World) (ht : Lib.TabIs Tryz.prog w "internal/strconv.uint64pow10" .u64 Lib.pow10Tab) :
    Calls Tryz.prog 183 #[.int .i64 v, .int .i64 10] w fun e w' => e = .returned (.string (B (decS v))) ∧ Below w.heap.size w w' :=
  (Tryz.strconv_FormatInt_10 v h0 h1 w ht).mono fun e w' ⟨h1, nk, os, h2⟩ => ⟨by rw [h1, itoa_eq]; rfl, by rw [h2]; exact Lib.below_grow _ _ (Nat.le_refl _) _ _⟩

theorem itoa_c (v : Int) (h0 : -9223372036854775808 ≤ v) (h1 : v ≤ 9223372036854775807) (w : World) (ht : Lib.TabIs Tryz.prog w "internal/strconv.uint64pow10" .u64 Lib.pow10Tab) :
    Calls Tryz.prog 117 #[.int .i64 v] w fun e w' => e = .returned (.string (B (decS v))) ∧ Below w.heap.size w w' :=
  (Tryz.strconv_Itoa v h0 h1 w ht).mono fun e w' ⟨h1, nk, os, h2⟩ => ⟨by rw [h1, itoa_eq]; rfl, by rw [h2]; exact Lib.below_grow _ _ (Nat.le_refl _) _ _⟩

set_option maxRecDepth 100000 in
set_option maxHeartbeats 1000000 in
theorem term_num (w0 : World) (vbs : List Nat) (hC : WCtx w0 vbs) (v : Int) (hv1 : -9223372036854775808 < v) (hv2 : v < 9223372036854775808) : WrOk w0 vbs (.num v) := by
  intro w wb mb out bv seen u h hT hb1 hb2
  have HBG := hide (h.begin hC hT)
  cases hT
  have hd := decS_len v hv1 hv2
  have HF := hide (fun w1 (h1 : Below w0.heap.size w0 w1) => formatInt_c v (by omega) (by omega) w1 (hC.tab w1 h1))
  have HW := hide (fun w1 (h1 : WOn w0 vbs w1 wb mb out bv seen) => str_w h1 (B (decS v)) (by rw [B_size]; simp [szE] at hb1; omega))
  have HCN := hide cnt_c
  have tNA := Tryz.taNA
  have tNN := Tryz.taNN
  obtain ⟨dp, c3, c4, f4, hlt⟩ := h.deep
  clear h
  unfold ptrV at *
  unfold cntV at c3
  go_enter Tryz.func142, Tryz.ntmps142
  go_wp2
  go_quiet ((go_at_call 141; exact Calls.quiet_of_same (HCN.out _ _)))
  go_upto_region 8 with (first | (go_at_call 182; refine (HBG.out _ _).2.2.2.mono ?_; rintro e w1 ⟨rfl, rfl⟩))
  have HB8 := hide (HBG.out nq (wrap64 (dp + 1)))
  obtain ⟨W, hW⟩ : ∃ W, W = (w.drewN nq).setCell ⟨wb, 4, none⟩ (.int .i64 (wrap64 (dp + 1))) := ⟨_, rfl⟩
  rw [← hW] at HB8 ⊢
  have hltW := HB8.out.1.wr.lt_size
  have HD := hide (HB8.out.1.below' (Below.refl _ _).drew)
  clear hW
  go_wp2
  go_region_with (first | (go_at_call 183; refine (HF.out _ HD.out.below).mono ?_; rintro e w1 ⟨rfl, hB1⟩) | (go_at_call 114; refine (HW.out _ (HD.out.below' hB1)).mono ?_; rintro e w2 ⟨v1, bv1, rfl, h1, f1⟩))
  obtain ⟨dp1, _, c4', f4', hlt'⟩ := h1.deep
  have HDP := hide h1.dep
  go_wp2
  go_end0
  exact WPost.mk' (HDP.out _).1 ((HB8.out.2.1.trans ((WFr.of_below (Below.refl _ _).drew).trans ((WFr.of_below hB1).trans f1))).trans (HDP.out _).2) (by rw [outS]; rfl) (by rw [outS])

theorem idx_lt {b : Nat} : ∀ {l : List Nat} {i : Nat}, l.idxOf? b = some i → i < l.length
  | [], i, h => by simp at h
  | a :: l, i, h => by
    rw [List.idxOf?_cons] at h
    split at h
    · injection h with h; subst h; simp
    · obtain ⟨j, hj, rfl⟩ := Option.map_eq_some_iff.1 h
      have := idx_lt hj
      simp; omega

set_option maxRecDepth 100000 in
set_option maxHeartbeats 1000000 in
theorem term_var (w0 : World) (vbs : List Nat) (hC : WCtx w0 vbs) (k : Nat) : WrOk w0 vbs (.var k) := by
  intro w wb mb out bv seen u h hT hb1 hb2
  have HBG := hide (h.begin hC hT)
  cases hT
  rename_i b hkb
  obtain ⟨hk, hbe⟩ := List.getElem?_eq_some_iff.1 hkb
  have hgd : vbs.getD k 0 = b := by rw [List.getD_eq_getElem?_getD, hkb]; rfl
  obtain ⟨e1, e2, e3⟩ := num_var vbs hC.nd hk seen h.seen
  rw [hgd] at e1 e2
  have HVB : Hid (∀ W outw bvw, WOn w0 vbs W wb mb outw bvw seen → VarBlks W (b :: seen.map fun j => vbs.getD j 0)) := fun W outw bvw hW c hc => by
    have hv0 := hW.vbl hC
    rcases List.mem_cons.1 hc with rfl | hc
    · exact hv0 _ (List.mem_of_getElem? hkb)
    · obtain ⟨j, hj, rfl⟩ := List.mem_map.1 hc
      have hjl := hW.seen j hj
      rw [List.getD_eq_getElem?_getD, List.getElem?_eq_getElem hjl]
      exact hv0 _ (List.getElem_mem hjl)
  obtain ⟨nn, hnn⟩ : ∃ nn, nn = numOf (seen.map fun j => vbs.getD j 0) b := ⟨_, rfl⟩
  have HN : Hid (∀ W, WOn w0 vbs W wb mb out bv seen → Calls Tryz.prog 184 #[ptrV wb, ptrV b] W fun e w' => e = .returned (.int .i64 (nn.1 : Nat)) ∧ WrIn w' wb mb w0.heap.size out bv nn.2 ∧ WFr wb mb bv bv W w') := fun W hW => by
    rw [hnn]
    exact number_w hW.wr (HVB.out _ _ _ hW) (by simp [szE] at hb2 ⊢; omega)
  rw [← hnn] at e1 e2
  have hnl : nn.1 ≤ 200000 := by
    have hl : (seen.map fun j => vbs.getD j 0).length ≤ 100000 := by simp [szE] at hb2 ⊢; omega
    rw [hnn]; unfold numOf
    split
    · rename_i i hi
      have : i < (seen.map fun j => vbs.getD j 0).length := by
        exact idx_lt hi
      simp only; omega
    · simp only; omega
  have HI := hide (fun w1 (h1 : Below w0.heap.size w0 w1) => itoa_c (nn.1 : Nat) (by omega) (by omega) w1 (hC.tab w1 h1))
  have hds : decS (nn.1 : Nat) = decN nn.1 := by unfold decS; rw [if_neg (by omega)]; rfl
  rw [hds] at HI
  have hdl := decN_len 6 nn.1 (by omega)
  have hsz : (B (decN nn.1)).size ≤ 100 := by rw [B_size]; omega
  have HW := hide (fun w1 bv1 sn (h1 : WOn w0 vbs w1 wb mb out bv1 sn) => str_w h1 (B [95] ++ B (decN nn.1)) (by rw [ByteArray.size_append, B_size, B_size]; simp [szE] at hb1 ⊢; omega))
  have HO : Hid (∀ W w1, WOn w0 vbs W wb mb out bv seen → WrIn w1 wb mb w0.heap.size out bv nn.2 → WFr wb mb bv bv W w1 → WOn w0 vbs w1 wb mb out bv (varOut k seen).2) := fun W w1 hd h1 f1 => ⟨by rw [← e2]; exact h1, e3, hd.below.trans (f1.toBelow hd.wr hd.below.size)⟩
  have E1 := hide e1
  have HCN := hide cnt_c
  have tVA := Tryz.taVA
  have tVN := Tryz.taVN
  have tVV := Tryz.taVV
  obtain ⟨dp, c3, c4, f4, hlt⟩ := h.deep
  clear h hC hnl hdl hds e1 e2 e3 hnn hbe hkb hgd
  unfold ptrV at *
  unfold cntV at c3
  go_enter Tryz.func142, Tryz.ntmps142
  go_wp2
  go_quiet ((go_at_call 141; exact Calls.quiet_of_same (HCN.out _ _)))
  go_upto_region 11 with (first | (go_at_call 182; refine (HBG.out _ _).2.2.2.mono ?_; rintro e w1 ⟨rfl, rfl⟩))
  have HB8 := hide (HBG.out nq (wrap64 (dp + 1)))
  obtain ⟨W, hW⟩ : ∃ W, W = (w.drewN nq).setCell ⟨wb, 4, none⟩ (.int .i64 (wrap64 (dp + 1))) := ⟨_, rfl⟩
  rw [← hW] at HB8 ⊢
  have hltW := HB8.out.1.wr.lt_size
  have HD := hide (HB8.out.1.below' (Below.refl _ _).drew)
  clear hW
  go_wp2
  go_region_with (first | (go_at_call 184; refine (HN.out _ HD.out).mono ?_; rintro e w1 ⟨rfl, h1, f1⟩) | (go_at_call 117; refine (HI.out _ (HO.out _ _ HD.out h1 f1).below).mono ?_; rintro e w2 ⟨rfl, hB2⟩) | (go_at_call 114; refine (HW.out _ _ _ ((HO.out _ _ HD.out h1 f1).below' hB2)).mono ?_; rintro e w3 ⟨v3, bv3, rfl, h3, f3⟩))
  obtain ⟨dp1, _, c4', f4', hlt'⟩ := h3.deep
  have HDP := hide h3.dep
  go_wp2
  go_end0
  refine WPost.mk' (HDP.out _).1 ((HB8.out.2.1.trans ((WFr.of_below (Below.refl _ _).drew).trans (f1.trans ((WFr.of_below hB2).trans f3)))).trans (HDP.out _).2) ?_ (by rw [outS])
  rw [outS, E1.out, B_append]
  rfl

end Go.Proofs.YtodpkdajbnceoaaGreatDoor
