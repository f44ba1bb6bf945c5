/- Draws: texts, numbers at limits, the source itself. -/
import Derived.Test.YtkmehbgepkilkaaGreatDoorXGDraw
import Derived.Test.YtkmehbgepkilkaaGreatDoorXGIClone
import Derived.Laws.IdiomStrings
import Derived.Laws.BytesString
import Derived.Test.YtkmehbgepkilkaaGreatDoorXGSCopy
import Derived.Deep.RegionWith
import Derived.BigQuiet
namespace Go.Proofs.YtkmehbgepkilkaaGreatDoor
open Go.RowKit

theorem ownsRow_kept {S : List Nat} {B sz n : Nat} {e : TypeId} {w w' : World} {v : Value} {xs : List Value} (h : w.ownsRow B e sz v n xs) (hk : Kept S w w') (hS : ∀ x ∈ S, x < B) : w'.ownsRow B e sz v n xs := by
  obtain ⟨h0, h1 | ⟨g, cap, cur, hv, hB, hh, hr⟩⟩ := h
  · exact ⟨h0, .inl h1⟩
  · have hlt : g < w.heap.size := (Array.getElem?_eq_some_iff.1 hh).1
    exact ⟨h0, .inr ⟨g, cap, cur, hv, hB, by rw [hk.block g hlt (fun hm => absurd (hS g hm) (by omega))]; exact hh, hr⟩⟩
theorem Kept.grown {S : List Nat} {w0 w w' : World} {row : Option Nat} (h : Kept S w0 w) (hg : w.grownBy w' row) (hr : ∀ k, row = some k → w0.heap.size ≤ k) : Kept S w0 w' :=
  ⟨hg.os.trans h.os, hg.tape.trans h.tape, hg.output.trans h.output, Nat.le_trans h.size hg.size, fun k hk hn => (hg.block k (Nat.lt_of_lt_of_le hk h.size) (fun e => absurd (hr k e.symm) (by omega))).trans (h.block k hk hn)⟩
def bytesOf (L : List Int) : ByteArray := ⟨(L.map fun x => UInt8.ofNat x.toNat).toArray⟩
theorem bytesOf_size (L : List Int) : (bytesOf L).size = L.length := by unfold bytesOf; rw [ByteArray.size]; simp
theorem own_string {P : Program} {e t T B : Nat} {w : World} {v : Value} {L : List Int} (h : w.ownsRow B e 1 v L.length (L.map (Value.int .u8))) (hr : ∀ x ∈ L, 0 ≤ x ∧ x ≤ 255) (hne : v ≠ .slice none 0 0)
    (ht : P.underlying t = some (.slice e)) (he : P.underlying e = some (.int .u8)) (hT : P.underlying T = some .string) :
    (convert t T v).run P w = .ok (.string (bytesOf L)) w := by
  obtain ⟨h0, hv⟩ := h
  rcases hv with ⟨rfl, hn⟩ | ⟨g, cap, cur, rfl, _, hh, hnc, _, hcs, htk⟩
  · exact absurd rfl hne
  · have := run_convert_bytes_back (P := P) w t T e ⟨g, 0, none⟩ cap (L.map fun x => UInt8.ofNat x.toNat) ht he hT (fun j hj => by
      have hjL : j < L.length := by simpa using hj
      rw [Addr.add_lit, Nat.zero_add, cell_of_row w g j _ e (0, 0) hh]
      have e1 : cur[j]? = (cur.toList.take (L.length * 1))[j]? := by
        rw [List.getElem?_take_of_lt (by omega)]; simp
      rw [e1, htk, List.getElem?_map, List.getElem?_eq_getElem hjL]
      have hb := hr L[j] (List.getElem_mem hjL)
      simp
      omega)
    rw [List.length_map] at this
    exact this

set_option maxHeartbeats 4000000 in
theorem bytes_any (v : Value) (bs : List Int) (g : Nat) (n : Int) (w : World) (h : Src v bs g w) (hn : n ≤ 100000) (hl : bs.length ≤ 1048576) :
    Calls Tryz.prog 22 #[.pointer (some ⟨g, 0, none⟩), .int .i64 n] w fun e w' => (∃ t : ByteArray, e = .returned (.string t) ∧ t.size ≤ 100000 ∧ (t.size : Int) ≤ max n 0) ∧ Src v bs g w' ∧ Kept [g] w w' := by
  obtain ⟨i0, hi, hz0, hz1, hz2⟩ := info_parts Tryz.infoByteK
  have HS := hide (h.below (below_new w (.cells #[] 5)))
  have HL := hide h.leads
  have HG := hide h.lt
  have HGN := hide (show g ∉ leads v by obtain ⟨_, _, _, _, _, _, h⟩ := h; exact h)
  have HO := hide (World.ownsRow_made (e := 5) (base := w.heap.size) (size := 1) w #[] 0 (Nat.le_refl _) (by unfold maxLen; omega) rfl)
  clear h
  go_enter Tryz.func22, Tryz.ntmps22
  go_wp2_with fail
  go_loopw [5, 6] (fun u i wr => ∃ (k : Nat) (L : List Int), i = .int .i64 k ∧ (k = 0 ∨ (k : Int) ≤ n) ∧ L.length = k ∧ Hid (∀ x ∈ L, 0 ≤ x ∧ x ≤ 255) ∧ Hid (wr.ownsRow w.heap.size 5 1 u L.length (L.map (Value.int .u8))) ∧ Hid (u ≠ .slice none 0 0) ∧ Hid (Src v bs g wr) ∧ Hid (Kept [g] w wr)) (fun _ i _ => n.toNat - (intOf i).toNat)
  case atStart => exact ⟨0, [], rfl, .inl rfl, rfl, by simp [Hid], HO, hide (by simp), HS, (Kept.refl _ _).alloc _⟩
  case round =>
    obtain ⟨k, L, rfl, hk, hLl, HR, HOw, HN, HSr, HK⟩ := hrel
    by_cases hlt : (k : Int) < n
    · go_wp2_with fail
      refine (n_any v bs g 256 _ HSr.out (by omega) hl).mono ?_
      rintro e w1 ⟨⟨r, rfl, hr0, hr1⟩, hs1, hk1⟩
      have hr2 : r < 256 := by omega
      have HS1 := hide (hs1.below (below_new w1 (.cells #[.int .u8 r] 5)))
      have HO1 := hide ((ownsRow_kept HOw.out hk1 (fun x hx => by have := HG.out; rw [List.mem_singleton.1 hx]; exact this)).alloc (.cells #[.int .u8 r] 5))
      have HK1 := hide ((HK.out.trans hk1).alloc (.cells #[.int .u8 r] 5))
      have hsz := HK1.out.size
      have HX := hide (row_new w1 [.int .u8 r] 5)
      clear hr1 hs1 hk1 HOw HSr HK
      go_wp2_with (at_builtin; refine wpList_append_own _ rfl _ _ 22 rfl w.heap.size 5 i0 (.int .u8 0) 1 1 Tryz.underlying22 hi hz0 hz1 hz2 rfl (by decide) _ L.length (L.map (Value.int .u8)) rfl HO1.out ⟨w1.heap.size, 0, none⟩ 1 1 [.int .u8 r] rfl rfl ?_ ?_ ?_ ?_ hsz ?_)
      · intro j u hj
        rw [Addr.add_lit, Nat.zero_add, HX.out.cell j]; exact hj
      · intro u hu; simp at hu; subst hu; rfl
      · unfold maxLen; omega
      · omega
      · intro v' w' hown' hgrow hnn
        have HR2 := hide (show ∀ x ∈ L ++ [r], 0 ≤ x ∧ x ≤ 255 from fun x hx => by
          rcases List.mem_append.1 hx with h' | h'
          · exact HR.out x h'
          · rw [List.mem_singleton.1 h']; omega)
        have HO2 := hide (show w'.ownsRow w.heap.size 5 1 v' (L ++ [r]).length ((L ++ [r]).map (Value.int .u8)) by rw [List.length_append, List.length_singleton, hLl, List.map_append]; exact hown')
        have HN2 := hide (show v' ≠ .slice none 0 0 from fun e => by first | exact hnn e | exact HN.out (hnn.1 e).1)
        have hown := HO1.out.lt
        have HK2 := hide (HK1.out.grown hgrow (fun k hk => (hown k hk).1))
        have HS2 := hide (HS1.out.kept (S := (_ : Value).ownBlock.toList) ⟨hgrow.os, hgrow.tape, hgrow.output, hgrow.size, fun k hk hn => hgrow.block k hk (fun e => hn (by rw [← e]; simp))⟩
          (fun hm => by
            have := hown g (by simpa using hm)
            have := HG.out; omega)
          (fun x hx hm => by
            have := hown x (by simpa using hm)
            have := HL.out x hx; omega))
        clear hown' hgrow hnn hown HO1 HS1 HK1 HX hsz
        go_wp2
        go_roundw
        case rel => exact ⟨k + 1, L ++ [r], by go_num, .inr (by omega), by simp [hLl], HR2, HO2, HN2, HS2, HK2⟩
        case measure => simp [intOf]; omega
    · have hcv := own_string (T := 9) HOw.out HR.out HN.out Tryz.underlying22 Tryz.underlying5 Tryz.underlying9
      go_wp2
      go_ret
      exact ⟨⟨_, rfl, by rw [bytesOf_size]; omega, by rw [bytesOf_size]; omega⟩, HSr.out, HK.out⟩
end Go.Proofs.YtkmehbgepkilkaaGreatDoor

/- Draws: a disk. -/
namespace Go.Proofs.YtkmehbgepkilkaaGreatDoor
open Go.RowKit

/-- A disk in the making: at block D, in memory of the call's own; the source at g goes along. -/
structure DInv (w0 : World) (v : Value) (bs : List Int) (g D : Nat) (us up : Value) (xs : List ByteArray) (ps : List (Int × ByteArray)) (w : World) : Prop where
  row : Row w D 26 [us, up]
  os : OwnS 9 (w0.heap.size + 1) w us xs
  op : OwnP 61 (w0.heap.size + 1) w up ps
  dj : ∀ x ∈ leads us, x ∉ leads up
  nu : D ∉ leads us
  np : D ∉ leads up
  ne : ps = [] → up = .slice none 0 0
  src : Src v bs g w
  kp : Kept [g] w0 w
  res : Row w w0.heap.size 26 [.slice none 0 0, .slice none 0 0]
  dg : w0.heap.size < D
  gl : g < w0.heap.size
  vl : ∀ x ∈ leads v, x < w0.heap.size
theorem DInv.drawn {w0 : World} {v : Value} {bs : List Int} {g D : Nat} {us up : Value} {xs : List ByteArray} {ps : List (Int × ByteArray)} {w w' : World} (h : DInv w0 v bs g D us up xs ps w) (hk : Kept [g] w w') (hs : Src v bs g w') : DInv w0 v bs g D us up xs ps w' :=
  have hg := h.gl
  have hd := h.dg
  ⟨hk.row h.row (by simp; omega), h.os.kept hk (fun x hx => by have := (h.os.leads x hx).1; simp; omega), h.op.kept hk (fun x hx => by have := (h.op.leads x hx).1; simp; omega), h.dj, h.nu, h.np, h.ne, hs, h.kp.trans hk, hk.row h.res (by simp; omega), hd, hg, h.vl⟩
theorem DInv.below {w0 : World} {v : Value} {bs : List Int} {g D : Nat} {us up : Value} {xs : List ByteArray} {ps : List (Int × ByteArray)} {w w' : World} (h : DInv w0 v bs g D us up xs ps w) (hb : Below w.heap.size w w') : DInv w0 v bs g D us up xs ps w' :=
  h.drawn ((Kept.ofBelow hb).mono (by simp)) (h.src.below hb)
theorem DInv.size {w0 : World} {v : Value} {bs : List Int} {g D : Nat} {us up : Value} {xs : List ByteArray} {ps : List (Int × ByteArray)} {w : World} (h : DInv w0 v bs g D us up xs ps w) : w0.heap.size + 1 < w.heap.size := by
  have := h.row.lt
  have := h.dg
  omega
/-- Another disk, made later, is put in its place. -/
theorem DInv.put {w0 : World} {v : Value} {bs : List Int} {g D : Nat} {us up us' up' : Value} {xs xs' : List ByteArray} {ps ps' : List (Int × ByteArray)} {w : World} (h : DInv w0 v bs g D us up xs ps w) {B : Nat} (hB : D < B)
    (o1 : OwnS 9 B w us' xs') (o2 : OwnP 61 B w up' ps') (dj : ∀ x ∈ leads us', x ∉ leads up') (ne : ps' = [] → up' = .slice none 0 0) :
    DInv w0 v bs g D us' up' xs' ps' ((w.setCell ⟨D, 0, none⟩ us').setCell ⟨D, 1, none⟩ up') := by
  have hd := h.dg
  have hg := h.gl
  have K : Kept [D] w ((w.setCell ⟨D, 0, none⟩ us').setCell ⟨D, 1, none⟩ up') := ((Kept.refl _ _).set (by simp) _).set (by simp) _
  have L1 := o1.leads
  have L2 := o2.leads
  have hbd : w0.heap.size + 1 ≤ B := by omega
  refine ⟨(h.row.set (j := 0) us').set (j := 1) up', (o1.kept K (fun x hx => by have := (L1 x hx).1; simp; omega)).mono hbd, (o2.kept K (fun x hx => by have := (L2 x hx).1; simp; omega)).mono hbd, dj,
    fun hm => by have := (L1 _ hm).1; omega, fun hm => by have := (L2 _ hm).1; omega, ne, h.src.kept K (by simp; omega) (fun x hx => ?_), ⟨h.kp.os, h.kp.tape, h.kp.output, by have := h.kp.size; simpa [World.setCell] using this, fun k hk hn => (K.block k (Nat.lt_of_lt_of_le hk h.kp.size) (by simp; omega)).trans (h.kp.block k hk hn)⟩, K.row h.res (by simp; omega), hd, hg, h.vl⟩
  have := h.vl x hx
  simp; omega
theorem right_new (n : Int) (h0 : 1 ≤ n) (h1 : n ≤ 64) : right (newDisk n) [] = true := by
  have e : newDisk n = List.replicate n.toNat ⟨#[]⟩ := by unfold newDisk; rw [if_pos ⟨h0, h1⟩]
  rw [e]
  unfold right okS okP
  simp only [Bool.and_eq_true, decide_eq_true_eq, List.length_replicate, List.length_nil]
  refine ⟨⟨⟨⟨by omega, by omega⟩, by omega⟩, ?_⟩, rfl⟩
  rw [List.all_eq_true]
  intro x hx
  rw [(List.mem_replicate.1 hx).2]
  rfl
theorem newDisk_length (n : Int) (h0 : 1 ≤ n) (h1 : n ≤ 64) : (newDisk n).length = n.toNat := by unfold newDisk; rw [if_pos ⟨h0, h1⟩, List.length_replicate]
end Go.Proofs.YtkmehbgepkilkaaGreatDoor

/- Draws: the source itself; which of what is pending is kept. -/
namespace Go.Proofs.YtkmehbgepkilkaaGreatDoor
open Go.RowKit

set_option maxHeartbeats 4000000 in
theorem source_any (v : Value) (bs : List Int) (w : World) (h : ReadsB w v bs) (hl : bs.length ≤ 1048576) :
    Calls Tryz.prog 20 #[v] w fun e w' => e = .returned (.pointer (some ⟨w.heap.size, 0, none⟩)) ∧ Src v bs w.heap.size w' ∧ Below w.heap.size w w' := by
  have HV := hide (h.below (below_new w (.cells #[v, .int .i64 0, .int .u64 88172645463325252, .int .i64 0] 85)) (Nat.le_refl _))
  have HGL := hide (show w.heap.size ∉ leads v from fun hm => Nat.lt_irrefl _ (h.leads _ hm))
  have HR0 := hide (row_new w [v, .int .i64 0, .int .u64 88172645463325252, .int .i64 0] 85)
  obtain ⟨p, cap, rfl, h1, h2, h3, h4⟩ := h
  have H3 := hide h3
  clear h3 h4
  obtain ⟨W0, hW0⟩ : ∃ W, W = w.alloc (.cells #[.slice p bs.length cap, .int .i64 0, .int .u64 88172645463325252, .int .i64 0] 85) := ⟨_, rfl⟩
  have HB0 := hide (show Below w.heap.size w W0 by rw [hW0]; exact below_new _ _)
  rw [← hW0] at HV HR0
  have HW := hide hW0
  clear hW0
  go_enter Tryz.func20, Tryz.ntmps20
  go_wp2_with fail
  rw [← HW.out]
  clear HW
  go_loopw [4] (fun i wr => ∃ (k : Nat) (mix : Int), k ≤ bs.length ∧ k ≤ 64 ∧ i = .int .i64 k ∧ Hid (Row wr w.heap.size 85 [.slice p bs.length cap, .int .i64 0, .int .u64 mix, .int .i64 0]) ∧ Hid (Kept [w.heap.size] W0 wr)) (fun i _ => 64 - (intOf i).toNat)
  case atStart => exact ⟨0, _, Nat.zero_le _, Nat.zero_le _, rfl, HR0, Kept.refl _ _⟩
  case round =>
    obtain ⟨k, mix, hk, hk2, rfl, HR, HK⟩ := hrel
    by_cases hlt : k < bs.length ∧ k < 64
    · obtain ⟨l1, l2⟩ := hlt
      have hv := HK.out.readsB HV.out (fun x hx hm => HGL.out (by rw [← List.mem_singleton.1 hm]; exact hx))
      obtain ⟨p', cap', he, _, _, _, h4⟩ := hv
      obtain ⟨rfl, rfl⟩ : p = p' ∧ cap = cap' := by simpa using he
      obtain ⟨gb, ob, rfl, hgb, hc⟩ := h4 (by omega)
      have hck := hc k l1
      obtain ⟨b, hb⟩ : ∃ b, b = bs[k]'l1 := ⟨_, rfl⟩
      have hb0 := H3.out _ (List.getElem_mem l1)
      rw [← hb] at hck hb0
      have hne : ¬ gb = w.heap.size := fun e => HGL.out (by rw [← e]; obtain ⟨j, hj⟩ : ∃ j, bs.length = j + 1 := ⟨bs.length - 1, by omega⟩; rw [hj]; exact List.mem_singleton.2 rfl)
      have t1 : (k : Int) < (bs.length : Int) := by omega
      have t2 : (k : Int) < 64 := by omega
      have c2 : wr.cell? ⟨w.heap.size, 2, none⟩ = some (.int .u64 mix) := HR.out.cell 2
      have f2 := HR.out.free 2
      clear hc hb h4 he
      go_wp2
      go_region
      go_wp2
      exact ⟨⟨k + 1, _, by omega, by omega, by go_num, hide (HR.out.set (j := 2) _), hide ((HK.out.set (by simp) _).drew)⟩, by simp [intOf]; omega⟩
    · have HVr := hide (HK.out.readsB HV.out (fun x hx hm => HGL.out (by rw [← List.mem_singleton.1 hm]; exact hx)))
      have HBr := hide (HK.out.toBelow HB0.out HB0.out.size (by simp))
      have c3 : wr.cell? ⟨w.heap.size, 3, none⟩ = some (.int .i64 0) := HR.out.cell 3
      have f3 := HR.out.free 3
      by_cases hb : k < bs.length
      · have t1 : (k : Int) < (bs.length : Int) := by omega
        have t2 : ¬ ((k : Int) < 64) := by omega
        clear hlt
        by_cases h12 : 12 < (bs.length : Int) / 20
        · go_wp2
          go_ret
          have RF := (HR.out.set (j := 3) (.int .i64 ((bs.length : Int) / 20))).set (j := 3) (.int .i64 12)
          have KF := ((Kept.refl [w.heap.size] wr).set (G := w.heap.size) (j := 3) (by simp) (.int .i64 ((bs.length : Int) / 20))).set (G := w.heap.size) (j := 3) (by simp) (.int .i64 12)
          exact ⟨rfl, ⟨0, _, _, RF, Nat.zero_le _, KF.readsB HVr.out (fun x hx hm => HGL.out (by rw [← List.mem_singleton.1 hm]; exact hx)), HGL.out⟩, KF.toBelow HBr.out HBr.out.size (by simp)⟩
        · go_wp2
          go_ret
          have RF := HR.out.set (j := 3) (.int .i64 ((bs.length : Int) / 20))
          have KF := (Kept.refl [w.heap.size] wr).set (G := w.heap.size) (j := 3) (by simp) (.int .i64 ((bs.length : Int) / 20))
          exact ⟨rfl, ⟨0, _, _, RF, Nat.zero_le _, KF.readsB HVr.out (fun x hx hm => HGL.out (by rw [← List.mem_singleton.1 hm]; exact hx)), HGL.out⟩, KF.toBelow HBr.out HBr.out.size (by simp)⟩
      · have t1 : decide ((k : Int) < (bs.length : Int)) = false := decide_eq_false (by omega)
        clear hlt
        by_cases h12 : 12 < (bs.length : Int) / 20
        · exact absurd h12 (by omega)
        · go_wp2
          go_ret
          have RF := HR.out.set (j := 3) (.int .i64 ((bs.length : Int) / 20))
          have KF := (Kept.refl [w.heap.size] wr).set (G := w.heap.size) (j := 3) (by simp) (.int .i64 ((bs.length : Int) / 20))
          exact ⟨rfl, ⟨0, _, _, RF, Nat.zero_le _, KF.readsB HVr.out (fun x hx hm => HGL.out (by rw [← List.mem_singleton.1 hm]; exact hx)), HGL.out⟩, KF.toBelow HBr.out HBr.out.size (by simp)⟩

/-- The slice v is the call's own: a row of numbers from block B on. -/
def OwnI (B : Nat) (w : World) (v : Value) (ks : List Int) : Prop := w.ownsRow B 2 1 v ks.length (ks.map (Value.int .i64))
theorem OwnI.reads {B : Nat} {w : World} {v : Value} {ks : List Int} (h : OwnI B w v ks) : ReadsI w v ks := by
  obtain ⟨h0, ⟨rfl, hn⟩ | ⟨g, cap, cur, rfl, hB, hh, hc, hm, hs, ht⟩⟩ := h
  · obtain rfl := List.eq_nil_of_length_eq_zero hn
    exact ⟨none, 0, rfl, Nat.le_refl _, Nat.zero_le _, fun h0 => absurd h0 (Nat.lt_irrefl 0)⟩
  · refine ⟨_, _, rfl, hc, hm, fun _ => ⟨g, 0, rfl, (Array.getElem?_eq_some_iff.1 hh).1, fun i hi => ?_⟩⟩
    rw [Nat.zero_add, cell_of_row w g i _ _ (0, 0) hh]
    have e1 : cur[i]? = (cur.toList.take (ks.length * 1))[i]? := by
      rw [List.getElem?_take_of_lt (by omega)]; simp
    rw [e1, ht, List.getElem?_map, List.getElem?_eq_getElem hi]
    rfl
theorem Tryz.infoInt64 : (Tryz.prog.info? 2).map (fun i => (i.zero, i.size, i.bytes)) = some (some (.int .i64 0), 1, 8) := by kernel_rfl
set_option maxHeartbeats 4000000 in
theorem keep_any (v : Value) (bs : List Int) (g : Nat) (w : World) (h : Src v bs g w) (hl : bs.length ≤ 1048576) :
    Calls Tryz.prog 50 #[.pointer (some ⟨g, 0, none⟩)] w fun e w' => (∃ u ks, e = .returned u ∧ ks.length ≤ 14 ∧ OwnI w.heap.size w' u ks) ∧ Src v bs g w' ∧ Kept [g] w w' := by
  obtain ⟨i0, hi, hz0, hz1, hz2⟩ := info_parts Tryz.infoInt64
  have HS := hide (h.below (below_new w (.cells #[] 2)))
  have HL := hide h.leads
  have HG := hide h.lt
  have HO := hide (World.ownsRow_made (e := 2) (base := w.heap.size) (size := 1) w #[] 0 (Nat.le_refl _) (by unfold maxLen; omega) rfl)
  clear h
  go_enter Tryz.func50, Tryz.ntmps50
  go_wp2_with fail
  refine (n_any v bs g 14 _ HS.out (by omega) hl).mono ?_
  rintro e w0 ⟨⟨r0, rfl, hr0, hr1⟩, hs0, hk0⟩
  have HS0 := hide hs0
  have HO0 := hide (ownsRow_kept HO.out hk0 (fun x hx => by have := HG.out; rw [List.mem_singleton.1 hx]; exact this))
  have HK0 := hide (((Kept.refl [g] w).alloc (.cells #[] 2)).trans hk0)
  have hr2 : r0 < 14 := by omega
  clear hs0 hk0 hr1 HS HO
  go_wp2_with fail
  go_loopw [3, 4] (fun u i wr => ∃ (k : Int) (L : List Int), i = .int .i64 k ∧ 0 ≤ k ∧ (L.length : Int) + k ≤ 14 ∧ Hid (wr.ownsRow w.heap.size 2 1 u L.length (L.map (Value.int .i64))) ∧ Hid (Src v bs g wr) ∧ Hid (Kept [g] w wr)) (fun _ i _ => (intOf i).toNat)
  case atStart => exact ⟨r0, [], rfl, hr0, by simp; omega, HO0, HS0, HK0⟩
  case round =>
    obtain ⟨k, L, rfl, hk0, hLl, HOw, HSr, HK⟩ := hrel
    by_cases hlt : 0 < k
    · go_wp2_with fail
      refine (n_any v bs g 2 _ HSr.out (by omega) hl).mono ?_
      rintro e w1 ⟨⟨r, rfl, hr0, hr1⟩, hs1, hk1⟩
      have HS1 := hide (hs1.below (below_new w1 (.cells #[.int .i64 r] 2)))
      have HO1 := hide ((ownsRow_kept HOw.out hk1 (fun x hx => by have := HG.out; rw [List.mem_singleton.1 hx]; exact this)).alloc (.cells #[.int .i64 r] 2))
      have HK1 := hide ((HK.out.trans hk1).alloc (.cells #[.int .i64 r] 2))
      have hsz := HK1.out.size
      have HX := hide (row_new w1 [.int .i64 r] 2)
      clear hr1 hs1 hk1 HOw HSr HK
      go_wp2_with (at_builtin; refine wpList_append_own _ rfl _ _ 37 rfl w.heap.size 2 i0 (.int .i64 0) 1 8 Tryz.underlying37 hi hz0 hz1 hz2 rfl (by decide) _ L.length (L.map (Value.int .i64)) rfl HO1.out ⟨w1.heap.size, 0, none⟩ 1 1 [.int .i64 r] rfl rfl ?_ ?_ ?_ ?_ hsz ?_)
      · intro j u hj
        rw [Addr.add_lit, Nat.zero_add, HX.out.cell j]; exact hj
      · intro u hu; simp at hu; subst hu; rfl
      · unfold maxLen; omega
      · omega
      · intro v' w' hown' hgrow hnn
        have HO2 := hide (show w'.ownsRow w.heap.size 2 1 v' (L ++ [r]).length ((L ++ [r]).map (Value.int .i64)) by rw [List.length_append, List.length_singleton, List.map_append]; exact hown')
        have hown := HO1.out.lt
        have HK2 := hide (HK1.out.grown hgrow (fun k hk => (hown k hk).1))
        have HS2 := hide (HS1.out.kept (S := (_ : Value).ownBlock.toList) ⟨hgrow.os, hgrow.tape, hgrow.output, hgrow.size, fun k hk hn => hgrow.block k hk (fun e => hn (by rw [← e]; simp))⟩
          (fun hm => by
            have := hown g (by simpa using hm)
            have := HG.out; omega)
          (fun x hx hm => by
            have := hown x (by simpa using hm)
            have := HL.out x hx; omega))
        clear hown' hgrow hnn hown HO1 HS1 HK1 HX hsz
        go_wp2
        go_roundw
        case rel => exact ⟨k - 1, L ++ [r], by go_num, by omega, by simp; omega, HO2, HS2, HK2⟩
        case measure => simp [intOf]; omega
    · go_wp2
      go_ret
      first | exact ⟨⟨_, rfl, L, by omega, HOw.out⟩, HSr.out, HK.out⟩ | exact ⟨⟨_, L, rfl, by omega, HOw.out⟩, HSr.out, HK.out⟩
end Go.Proofs.YtkmehbgepkilkaaGreatDoor

/- Draws: one of some texts; a text that is changed a little. -/
namespace Go.Proofs.YtkmehbgepkilkaaGreatDoor
open Go.RowKit
theorem Kept.drewNQ {S : List Nat} {w w' : World} (h : Kept S w w') (n : Nat) : Kept S w (w'.drewN n) := ⟨h.os, h.tape, h.output, h.size, h.block⟩
theorem Src.drewNQ {v : Value} {bs : List Int} {g : Nat} {w : World} (h : Src v bs g w) (n : Nat) : Src v bs g (w.drewN n) := h.kept (S := []) ((Kept.refl [] w).drewNQ n) (by simp) (by simp)
theorem oneCell_text (X : World) (c : Int) (h0 : 0 ≤ c) (h1 : c < 256) : ∃ t : ByteArray, t.size = 1 ∧ (convert 22 9 (.slice (some ⟨X.heap.size, 0, none⟩) 1 1)).run Tryz.prog (X.alloc (.cells #[.int .u8 c] 5)) = .ok (.string t) (X.alloc (.cells #[.int .u8 c] 5)) := by
  refine ⟨⟨#[UInt8.ofNat c.toNat]⟩, rfl, ?_⟩
  have h := run_convert_bytes_back (P := Tryz.prog) (X.alloc (.cells #[.int .u8 c] 5)) 22 9 5 ⟨X.heap.size, 0, none⟩ 1 [UInt8.ofNat c.toNat] Tryz.underlying22 Tryz.underlying5 Tryz.underlying9 (fun j hj => by
    obtain rfl : j = 0 := by simpa using hj
    have e : (((UInt8.ofNat c.toNat).toNat : Nat) : Int) = c := by
      rw [UInt8.toNat_ofNat_of_lt' (show c.toNat < 256 by omega)]; omega
    have r := (row_new X [.int .u8 c] 5).cell 0
    simp only [List.getElem_cons_zero, e]
    first | exact r | simp [Addr.add])
  exact h
theorem ext_sizeQ (t : ByteArray) (a b : Nat) (h : a ≤ b) (hb : b ≤ t.size) : (t.extract a b).size = b - a := by rw [ByteArray.size_extract]; omega
set_option maxHeartbeats 4000000 in
set_option maxRecDepth 100000 in
theorem spoil_any (v : Value) (bs : List Int) (g : Nat) (t : ByteArray) (w : World) (h : Src v bs g w) (hl : bs.length ≤ 1048576) (ht : t.size ≤ 100000) :
    Calls Tryz.prog 57 #[.pointer (some ⟨g, 0, none⟩), .string t] w fun e w' => (∃ t' : ByteArray, e = .returned (.string t') ∧ t'.size ≤ t.size + 1) ∧ Src v bs g w' ∧ Kept [g] w w' := by
  have HS := hide h
  clear h
  have hwr : IntKind.i64.wrap ((t.size : Int) + 1) = (t.size : Int) + 1 := by rw [IntKind.wrap_i64]; omega
  go_enter Tryz.func57, Tryz.ntmps57
  go_wp2_with fail
  refine (n_any v bs g ((t.size : Int) + 1) w HS.out (by omega) hl).mono ?_
  rintro e w1 ⟨⟨r, rfl, hr0, hr1⟩, hs1, hk1⟩
  obtain ⟨k, rfl⟩ := Int.eq_ofNat_of_zero_le hr0
  have hk : k ≤ t.size := by omega
  have HS1 := hide hs1
  have HK1 := hide hk1
  clear hs1 hk1 hr0 hr1
  go_wp2_with fail
  refine (n_any v bs g 17 _ HS1.out (by omega) hl).mono ?_
  rintro e w2 ⟨⟨r, rfl, hr0, hr1⟩, hs2, hk2⟩
  obtain ⟨m, rfl⟩ := Int.eq_ofNat_of_zero_le hr0
  have hm : m < 17 := by omega
  have HS2 := hide (hs2.below (below_new w2 (.cells #[.int .u8 (((⟨#[32, 10, 48, 97, 45, 110, 44, 58, 93, 255, 40, 120, 126, 49, 128, 225, 59]⟩ : ByteArray)[m]'hm).toNat : Int)] 5)))
  have HK2 := hide ((HK1.out.trans hk2).below (below_new w2 (.cells #[.int .u8 (((⟨#[32, 10, 48, 97, 45, 110, 44, 58, 93, 255, 40, 120, 126, 49, 128, 225, 59]⟩ : ByteArray)[m]'hm).toNat : Int)] 5)))
  obtain ⟨cb, hcb⟩ : ∃ c : Int, c = (((⟨#[32, 10, 48, 97, 45, 110, 44, 58, 93, 255, 40, 120, 126, 49, 128, 225, 59]⟩ : ByteArray)[m]'hm).toNat : Int) := ⟨_, rfl⟩
  have hlt := UInt8.toNat_lt ((⟨#[32, 10, 48, 97, 45, 110, 44, 58, 93, 255, 40, 120, 126, 49, 128, 225, 59]⟩ : ByteArray)[m]'hm)
  rw [← hcb] at HS2 HK2
  obtain ⟨ct, hct, hcv⟩ := oneCell_text w2 cb (by rw [hcb]; omega) (by rw [hcb]; omega)
  clear hs2 hk2 hr0 hr1 hlt
  have hix := hcb.symm
  clear hcb
  have hmI : (m : Int) < 17 := by omega
  have e1 : (t.extract 0 k).size = k := by rw [ext_sizeQ t 0 k (by omega) hk]; omega
  have e2 : (t.extract k t.size).size = t.size - k := ext_sizeQ t k t.size hk (Nat.le_refl _)
  have HSZ := hide (show ((t.extract 0 k ++ ct) ++ t.extract k t.size).size ≤ t.size + 1 by rw [ByteArray.size_append, ByteArray.size_append, e1, e2, hct]; omega)
  by_cases hkt : k = t.size
  · have hke : ((k : Int) == (t.size : Int)) = true := by simp [hkt]
    go_wp2_with fail
    go_quiet (fail)
    go_wp2
    go_ret
    exact ⟨⟨_, rfl, by first | exact HSZ.out | (rw [ByteArray.size_append, hct]; exact Nat.le_refl _)⟩, HS2.out.drewNQ nq, HK2.out.drewNQ nq⟩
  · have hke : ((k : Int) == (t.size : Int)) = false := by simp; omega
    have hk1 : k + 1 ≤ t.size := by omega
    have hkw : IntKind.i64.wrap ((k : Int) + 1) = ((k + 1 : Nat) : Int) := by rw [IntKind.wrap_i64]; omega
    have e3 : (t.extract (k + 1) t.size).size = t.size - (k + 1) := ext_sizeQ t (k + 1) t.size hk1 (Nat.le_refl _)
    have HSZ2 := hide (show (t.extract 0 k ++ t.extract (k + 1) t.size).size ≤ t.size + 1 by rw [ByteArray.size_append, e1, e3]; omega)
    have HSZ3 := hide (show ((t.extract 0 k ++ ct) ++ t.extract (k + 1) t.size).size ≤ t.size + 1 by rw [ByteArray.size_append, ByteArray.size_append, e1, e3, hct]; omega)
    go_wp2_with fail
    refine (one_any v bs g 3 _ HS2.out (by omega) hl).mono ?_
    rintro e w3 ⟨⟨b1, rfl⟩, hs3, hk3⟩
    have HS3 := hide hs3
    have HK3 := hide (HK2.out.trans hk3)
    clear hs3 hk3
    cases b1
    · go_wp2_with fail
      refine (one_any v bs g 2 _ HS3.out (by omega) hl).mono ?_
      rintro e w4 ⟨⟨b2, rfl⟩, hs4, hk4⟩
      have HS4 := hide hs4
      have HK4 := hide (HK3.out.trans hk4)
      clear hs4 hk4
      cases b2
      · go_wp2_with fail
        go_quiet (fail)
        go_wp2
        go_ret
        exact ⟨⟨_, rfl, HSZ3.out⟩, HS4.out.drewNQ nq, HK4.out.drewNQ nq⟩
      · go_wp2_with fail
        go_quiet (fail)
        go_wp2
        go_ret
        exact ⟨⟨_, rfl, HSZ2.out⟩, HS4.out.drewNQ nq, HK4.out.drewNQ nq⟩
    · go_wp2_with fail
      go_quiet (fail)
      go_wp2
      go_ret
      exact ⟨⟨_, rfl, HSZ.out⟩, HS3.out.drewNQ nq, HK3.out.drewNQ nq⟩
end Go.Proofs.YtkmehbgepkilkaaGreatDoor
