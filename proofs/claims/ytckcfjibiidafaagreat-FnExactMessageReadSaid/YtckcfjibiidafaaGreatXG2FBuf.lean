/- Bytes that a call puts together by append, in a row of its own: what is owned behind each append, and the text that it is made into. Nothing here speaks of one program. -/
import Derived.WalkKit
import Derived.OpenShut
import Derived.Laws.IdiomStrings
import Derived.Laws.BytesString
import Derived.Lib.OthersKept
import Derived.Lib.AppendStr
import Derived.Deep.RegionHeld3
import Derived.Test.YtckcfjibiidafaaGreatXG1FIdx
namespace Go.Proofs.YtckcfjibiidafaaGreat
open Go.RowKit

def u8v (c : UInt8) : Value := .int .u8 (c.toNat : Int)
def u8s (L : List UInt8) : List Value := L.map u8v
@[simp] theorem u8s_len (L : List UInt8) : (u8s L).length = L.length := by simp [u8s]

/-- The slice v owns the bytes L in the world w, in a block from B on; from w0 on nothing below B has turned, nor any block that is no row of bytes. -/
structure Buf (e : TypeId) (B : Nat) (w0 w : World) (v : Value) (L : List UInt8) : Prop where
  own : w.ownsRow B e 1 v L.length (u8s L)
  below : Below B w0 w
  le : B ≤ w0.heap.size
  kept : Lib.OthersKept e none w0 w

theorem Buf.start {e B : Nat} {w : World} {v : Value} {L : List UInt8} (h : w.ownsRow B e 1 v L.length (u8s L)) (hB : B ≤ w.heap.size) : Buf e B w w v L :=
  ⟨h, Below.refl _ _, hB, Lib.OthersKept.refl _ _ _⟩
theorem Buf.nil (e : TypeId) {B : Nat} {w : World} (hB : B ≤ w.heap.size) : Buf e B w w (.slice none 0 0) [] :=
  ⟨World.ownsRow_nil w _ _ _, Below.refl _ _, hB, Lib.OthersKept.refl _ _ _⟩
theorem Buf.size {e B : Nat} {w0 w : World} {v : Value} {L : List UInt8} (h : Buf e B w0 w v L) : B ≤ w.heap.size := Nat.le_trans h.le h.below.size
theorem Buf.trans {e B : Nat} {w0 w1 w2 : World} {v u : Value} {L M : List UInt8} (h : Buf e B w0 w1 v L) (k : Buf e B w1 w2 u M) : Buf e B w0 w2 u M :=
  ⟨k.own, h.below.trans k.below, h.le, h.kept.trans k.kept⟩
theorem Buf.drew {e B : Nat} {w0 w : World} {v : Value} {L : List UInt8} (h : Buf e B w0 w v L) : Buf e B w0 w.drew v L :=
  ⟨h.own, h.below.drew, h.le, h.kept.drew⟩
theorem Buf.alloc {e B : Nat} {w0 w : World} {v : Value} {L : List UInt8} (h : Buf e B w0 w v L) (o : Obj) : Buf e B w0 (w.alloc o) v L :=
  ⟨h.own.alloc _, h.below.alloc h.size _, h.le, h.kept.alloc _⟩
theorem own_kindB {w : World} {B : Nat} {e : TypeId} {v : Value} {n : Nat} {xs : List Value} (h : w.ownsRow B e 1 v n xs) : ∀ g, v.ownBlock = some g → ∃ c fz, w.heap[g]? = some (.cells c e fz) := by
  intro g hg
  rcases h.2 with ⟨rfl, _⟩ | ⟨g', cap, cur, rfl, _, hgg, _⟩
  · simp [Value.ownBlock] at hg
  · simp [Value.ownBlock] at hg
    subst hg
    exact ⟨cur, _, hgg⟩
/-- A call that turns no byte row but makes new blocks. -/
theorem Buf.onBelow {e B : Nat} {w0 w w' : World} {v : Value} {L : List UInt8} (h : Buf e B w0 w v L) (hb : Below w.heap.size w w') : Buf e B w0 w' v L := by
  refine ⟨h.own.kept (row := none) ⟨hb.os, hb.tape, hb.output, hb.size, fun k hk _ => hb.block k hk⟩ (by cases v.ownBlock <;> simp), h.below.trans (hb.mono h.size), h.le, ?_⟩
  intro k o hk hn ho
  have h1 := h.kept k o hk hn ho
  have hlt : k < w.heap.size := (Array.getElem?_eq_some_iff.1 h1).1
  rw [hb.block k hlt]
  exact h1
theorem Buf.iterAt {e B : Nat} {w0 w : World} {v : Value} {L : List UInt8} (h : Buf e B w0 w v L) {k : Nat} {s : ByteArray} {pos : Nat} (hk : w.heap[k]? = some (.stringIter s pos)) (hk0 : w0.heap.size ≤ k) (pos' : Nat) :
    Buf e B w0 (w.iterAt k s pos') v L := by
  refine ⟨⟨h.own.1, ?_⟩, Lib.below_iterAt h.below (Nat.le_trans h.le hk0) s pos', h.le, ?_⟩
  · rcases h.own.2 with hn | ⟨g, cap, cur, hv, hbg, hg, rest⟩
    · exact .inl hn
    · have hkg : g ≠ k := by
        intro e1
        rw [e1, hk] at hg
        cases hg
      exact .inr ⟨g, cap, cur, hv, hbg, (Lib.iterAt_other w k g s pos' hkg).trans hg, rest⟩
  · intro j o hj hn ho
    have hjl : j < w0.heap.size := (Array.getElem?_eq_some_iff.1 hj).1
    rw [Lib.iterAt_other w k j s pos' (by omega)]
    exact h.kept j o hj hn ho

/-- What append of new bytes, that lie in a block of their own, does. -/
theorem buf_append {P : Program} {w w0 : World} {B : Nat} {e t ty : TypeId} (ht : P.underlying t = some (.slice e)) (hi : (P.info? e).map (fun i => (i.zero, i.size, i.bytes)) = some (some (.int .u8 0), 1, 1))
    {v : Value} {L : List UInt8} (h : Buf e B w0 w v L) (g m : Nat) (N : List UInt8) (hm : N.length = m) (hc : ∃ fz, w.heap[g]? = some (.cells (u8s N).toArray e fz)) (hlen : L.length + N.length ≤ 100000000) :
    ∃ v' w', (Builtin.append_ #[t, t] ty #[v, .slice (some ⟨g, 0, none⟩) m m]).run P w = .ok v' w' ∧ Buf e B w0 w' v' (L ++ N) := by
  obtain ⟨i0, hi0, hz0, hz1, hz2⟩ := info_parts hi
  obtain ⟨fz, hc⟩ := hc
  obtain ⟨v', w', hr, ho, hg, _⟩ := run_append_own (P := P) w B t ty e i0 (.int .u8 0) 1 1 ht hi0 hz0 hz1 hz2 rfl (by decide) v L.length (u8s L) h.own ⟨g, 0, none⟩ m m (u8s N) (by simp [hm])
    (by
      intro j u hj
      have ea : (⟨g, 0, none⟩ : Addr).add j = ⟨g, j, none⟩ := by unfold Addr.add; split <;> simp_all
      rw [ea, cell_of_row w g j _ e fz hc]
      simpa using hj)
    (by intro u hu; simp [u8s] at hu; obtain ⟨x, _, rfl⟩ := hu; rfl) (by unfold maxLen; omega) (by omega) h.size
  refine ⟨v', w', hr, ?_, h.below.grown hg h.size (fun k hk => (h.own.lt k hk).1), h.le, h.kept.grown hg (own_kindB h.own)⟩
  have : u8s (L ++ N) = u8s L ++ u8s N := by simp [u8s]
  rw [this, List.length_append, hm]
  exact ho

theorem step_buf {P : Program} {ops : Array Oper} {o : Oper} {a : Act} {w w0 : World} {K : Act → World → Prop} {Q : Exit → Act → World → Prop} {E : Prop}
    (hg : o.guard = none) (s x : Operand) (t : TypeId) (hop : o.op = Op.call { callee := Callee.builtin Builtin.append, args := #[s, x], argTypes := #[t, t] })
    (B : Nat) (e : TypeId) (ht : P.underlying t = some (.slice e)) (hi : (P.info? e).map (fun i => (i.zero, i.size, i.bytes)) = some (some (.int .u8 0), 1, 1))
    (v : Value) (L : List UInt8) (hs : a.eval s = v) (hB : Buf e B w0 w v L) (g m : Nat) (N : List UInt8) (hx : a.eval x = .slice (some ⟨g, 0, none⟩) m m) (hm : N.length = m)
    (hc : ∃ fz, w.heap[g]? = some (.cells (u8s N).toArray e fz)) (hlen : L.length + N.length ≤ 100000000)
    (hK : ∀ v' w', Buf e B w0 w' v' (L ++ N) → K (a.put o.dst v') w') :
    if Region.wanted o (yielded ops a.tmps) = true then Oper.wp P o a w K Q else E := by
  have hw : Region.wanted o (yielded ops a.tmps) = true := by simp [Region.wanted, hg]
  rw [if_pos hw]
  obtain ⟨v', w', hrun, h2⟩ := buf_append (P := P) (ty := o.type) ht hi hB g m N hm hc hlen
  unfold Oper.wp
  simp [execOp, hop, resolve, invoke, builtin, hs, hx, hrun, Result.andThen]
  exact hK v' w' h2

theorem wpList_buf {P : Program} {ops : Array Oper} {rest : List Oper} {o : Oper} {a : Act} {w w0 : World} {Q : Exit → Act → World → Prop}
    (hg : o.guard = none) (s x : Operand) (t : TypeId) (hop : o.op = Op.call { callee := Callee.builtin Builtin.append, args := #[s, x], argTypes := #[t, t] })
    (B : Nat) (e : TypeId) (ht : P.underlying t = some (.slice e)) (hi : (P.info? e).map (fun i => (i.zero, i.size, i.bytes)) = some (some (.int .u8 0), 1, 1))
    (v : Value) (L : List UInt8) (hs : a.eval s = v) (hB : Buf e B w0 w v L) (g m : Nat) (N : List UInt8) (hx : a.eval x = .slice (some ⟨g, 0, none⟩) m m) (hm : N.length = m)
    (hc : ∃ fz, w.heap[g]? = some (.cells (u8s N).toArray e fz)) (hlen : L.length + N.length ≤ 100000000)
    (hK : ∀ v' w', Buf e B w0 w' v' (L ++ N) → wpList P ops Q rest (a.put o.dst v') w') : wpList P ops Q (o :: rest) a w := by
  refine wpList_plain hg fun _ hK2 => ?_
  obtain ⟨v', w', hrun, h2⟩ := buf_append (P := P) (ty := o.type) ht hi hB g m N hm hc hlen
  unfold Oper.wp
  simp [execOp, hop, resolve, invoke, builtin, hs, hx, hrun, Result.andThen]
  exact hK2 _ _ (hK v' w' h2)

theorem Buf.text {P : Program} {e t T B : Nat} {w0 w : World} {v : Value} {L : List UInt8} (h : Buf e B w0 w v L)
    (ht : P.underlying t = some (.slice e)) (he : P.underlying e = some (.int .u8)) (hT : P.underlying T = some .string) :
    (convert t T v).run P w = .ok (.string ⟨L.toArray⟩) w := by
  obtain ⟨h0, hv⟩ := h.own
  rcases hv with ⟨rfl, hn⟩ | ⟨g, cap, cur, rfl, _, hh, hnc, _, hcs, htk⟩
  · have : L = [] := List.eq_nil_of_length_eq_zero hn
    subst this
    rw [run_convert_bytes_string w t T e none 0 0 ht he hT]
    rfl
  · exact run_convert_bytes_back (P := P) w t T e ⟨g, 0, none⟩ cap L ht he hT (fun j hj => by
      have ea : (⟨g, 0, none⟩ : Addr).add j = ⟨g, j, none⟩ := by unfold Addr.add; split <;> simp_all
      rw [ea, cell_of_row w g j _ e (0, 0) hh]
      have e1 : cur[j]? = (cur.toList.take (L.length * 1))[j]? := by
        rw [List.getElem?_take_of_lt (by omega)]; simp
      rw [e1, htk]
      simp [u8s, u8v, hj])
end Go.Proofs.YtckcfjibiidafaaGreat
/- A text escaped by marks, as the model and as the program put it together; what is plain. -/
namespace Go.Proofs.YtckcfjibiidafaaGreat
open Go.RowKit

def letters : List UInt8 := [70, 83, 82, 69, 84]
def bAt (m : ByteArray) (k : Nat) : UInt8 := m.data.toList.getD k 0
/-- What stands for a byte. -/
def escOne (m : ByteArray) (c : UInt8) : List UInt8 :=
  if 0 ≤ Lib.indexByte m.data.toList c then [bAt m 3, letters.getD (Lib.indexByte m.data.toList c).toNat 0, bAt m 3] else [c]
def escL (m : ByteArray) (t : List UInt8) : List UInt8 := t.flatMap (escOne m)
theorem escOne_len (m : ByteArray) (c : UInt8) : (escOne m c).length ≤ 3 := by unfold escOne; split <;> simp
theorem escL_len (m : ByteArray) : ∀ t : List UInt8, (escL m t).length ≤ 3 * t.length
  | [] => by simp [escL]
  | c :: t => by
    have h1 := escOne_len m c
    have h2 := escL_len m t
    simp only [escL, List.flatMap_cons, List.length_append, List.length_cons] at h2 ⊢
    omega
theorem escL_snoc (m : ByteArray) (t : List UInt8) (c : UInt8) : escL m (t ++ [c]) = escL m t ++ escOne m c := by simp [escL]
theorem take_snoc (s : ByteArray) (k : Nat) (h : k < s.size) : s.data.toList.take (k + 1) = s.data.toList.take k ++ [s[k]'h] := by
  rw [List.take_succ_eq_append_getElem (by simpa using h), data_get s k h]
theorem bAt_get (m : ByteArray) (k : Nat) (h : k < m.size) : bAt m k = m[k]'h := by
  have h' : k < m.data.toList.length := by simpa using h
  unfold bAt
  rw [List.getD_eq_getElem?_getD, List.getElem?_eq_getElem h', Option.getD_some, data_get m k h]
theorem indexByte_lt : ∀ (l : List UInt8) (c : UInt8), Lib.indexByte l c < l.length
  | [], _ => by simp [Lib.indexByte]
  | b :: l, c => by
    have ih := indexByte_lt l c
    have g := Lib.indexByte_ge l c
    unfold Lib.indexByte
    split
    · simp
    · split
      · simp; omega
      · simp; omega

def plainAt (s : ByteArray) (j : Nat) : Bool := if h : j < s.size then plainR ((s[j]'h).toNat : Int) else true
def plainB (s : ByteArray) : Bool := (List.range s.size).all (plainAt s)
theorem plainB_yes (s : ByteArray) (h : ∀ j, j < s.size → plainAt s j = true) : plainB s = true := List.all_eq_true.2 fun j hj => h j (List.mem_range.1 hj)
theorem plainB_no (s : ByteArray) (k : Nat) (hk : k < s.size) (h : plainAt s k = false) : plainB s = false := List.all_eq_false.2 ⟨k, List.mem_range.2 hk, by simp [h]⟩
theorem plainAt_eq (s : ByteArray) (k : Nat) (hk : k < s.size) : plainAt s k = plainR ((s[k]'hk).toNat : Int) := by simp [plainAt, hk]
theorem plainAt_succ (s : ByteArray) (k : Nat) (h : ∀ j, j < k → plainAt s j = true) (hk : plainAt s k = true) : ∀ j, j < k + 1 → plainAt s j = true := by
  intro j hj
  by_cases e : j = k
  · rw [e]; exact hk
  · exact h j (by omega)
theorem plainB_at {s : ByteArray} (h : plainB s = true) (k : Nat) (hk : k < s.size) : 32 ≤ (s[k]'hk).toNat ∧ (s[k]'hk).toNat ≤ 126 := by
  have := List.all_eq_true.1 h k (List.mem_range.2 hk)
  rw [plainAt_eq s k hk] at this
  simp [plainR] at this
  omega
theorem plainR_high (r : Int) (h : 128 ≤ r) : plainR r = false := by simp [plainR]; omega

set_option maxHeartbeats 1000000 in
theorem l04Plain_any (s : ByteArray) (most : Int) (w : World) (hs : s.size ≤ maxLen) :
    Calls Tryz.prog 93 #[.string s, .int .i64 most] w fun e w' => e = .returned (.bool (plainB s && decide ((s.size : Int) ≤ most))) ∧ w' = w := by
  unfold maxLen at hs
  go_enter Tryz.func93, Tryz.ntmps93
  go_wp2
  go_loop [5] (fun i => ∃ k : Nat, k ≤ s.size ∧ i = .int .i64 k ∧ ∀ j, j < k → plainAt s j = true) (fun i => s.size - (intOf i).toNat)
  case atStart => exact ⟨0, Nat.zero_le _, rfl, fun j hj => absurd hj (by omega)⟩
  case round =>
    obtain ⟨k, hk, rfl, hall⟩ := hrel
    have HA := hideF hall
    clear hall
    by_cases hlt : k < s.size
    · have HO := hideF (plainAt_eq s k hlt)
      rcases plain_parts ((s[k]'hlt).toNat : Int) with h | ⟨h, h'⟩ | h
      · go_wp2
        go_ret
        exact ⟨ret_boolF (by rw [plainB_no s k hlt (by rw [HO.out]; simp [plainR]; omega)]; rfl), rfl⟩
      · have h2 : ¬ 126 < ((s[k]'hlt).toNat : Int) := by omega
        go_wp2
        go_round
        case rel => exact ⟨k + 1, by omega, by go_num, plainAt_succ s k HA.out (by rw [HO.out]; simp [plainR]; omega)⟩
        case measure => simp [intOf]; omega
      · have h2 : 126 < ((s[k]'hlt).toNat : Int) := by omega
        go_wp2
        go_ret
        exact ⟨ret_boolF (by rw [plainB_no s k hlt (by rw [HO.out]; simp [plainR]; omega)]; rfl), rfl⟩
    · go_wp2
      go_ret
      exact ⟨ret_boolF (by rw [plainB_yes s (fun j hj => HA.out j (by omega))]; simp), rfl⟩

set_option maxHeartbeats 1000000 in
theorem allPlain_any (s : ByteArray) (w : World) :
    Calls Tryz.prog 98 #[.string s] w fun e w' => e = .returned (.bool (plainB s)) ∧ Below w.heap.size w w' := by
  go_enter Tryz.func98, Tryz.ntmps98
  go_wp2
  go_loopw [] (fun w' => ∃ k : Nat, k ≤ s.size ∧ w' = w.iter s k ∧ ∀ j, j < k → plainAt s j = true) (fun w' => s.size - w'.iterPos w.heap.size)
  case atStart => exact ⟨0, Nat.zero_le _, rfl, fun j hj => absurd hj (by omega)⟩
  case round =>
    obtain ⟨k, hk, rfl, hall⟩ := hrel
    have HA := hideF hall
    clear hall
    by_cases hlt : k < s.size
    · have HO := hideF (plainAt_eq s k hlt)
      by_cases hasc : (s[k]'hlt).toNat < 128
      · have hnx : ∀ ty, (Instr.next (.pointer (some ⟨w.heap.size, 0, none⟩)) true ty).run Tryz.prog (w.iter s k) = _ := fun ty => run_next_ascii w s k ty hlt hasc
        go_wp2_with fail
        refine (isPlain_any _ _).mono ?_
        rintro e w' ⟨rfl, rfl⟩
        cases hm : plainR ((s[k]'hlt).toNat : Int)
        · rw [hm] at HO; clear hm
          go_wp2
          go_ret
          exact ⟨ret_boolF (plainB_no s k hlt HO.out).symm, below_iter _ _ _⟩
        · rw [hm] at HO; clear hm
          go_wp2
          go_roundw
          case rel => exact ⟨k + 1, by omega, rfl, plainAt_succ s k HA.out HO.out⟩
          case measure => simp; omega
      · have hh := decode_high s k hlt (by omega)
        have hm : plainR ((Utf8.decode s k).1 : Int) = false := plainR_high _ (by omega)
        have hm2 : plainR ((s[k]'hlt).toNat : Int) = false := plainR_high _ (by omega)
        rw [hm2] at HO; clear hm2
        have hnx : ∀ ty, (Instr.next (.pointer (some ⟨w.heap.size, 0, none⟩)) true ty).run Tryz.prog (w.iter s k) = _ := fun ty => run_next_any w s k ty hlt
        go_wp2_with fail
        refine (isPlain_any _ _).mono ?_
        rintro e w' ⟨rfl, rfl⟩
        rw [hm]
        go_wp2
        go_ret
        exact ⟨ret_boolF (plainB_no s k hlt HO.out).symm, below_iter _ _ _⟩
    · have hnx : ∀ ty, (Instr.next (.pointer (some ⟨w.heap.size, 0, none⟩)) true ty).run Tryz.prog (w.iter s k) = _ := fun ty => run_next_end w s k ty hlt
      go_wp2
      go_ret
      exact ⟨ret_boolF (plainB_yes s (fun j hj => HA.out j (by omega))).symm, below_iter _ _ _⟩

theorem l04Letters_any (w : World) : Calls Tryz.prog 57 #[] w fun e w' => e = .returned (.string ⟨#[70, 83, 82, 69, 84]⟩) ∧ w' = w := by
  go_enter Tryz.func57, Tryz.ntmps57
  go_wp2
  go_ret
  exact ⟨rfl, rfl⟩

theorem Tryz.infoByte : (Tryz.prog.info? 5).map (fun i => (i.zero, i.size, i.bytes)) = some (some (.int .u8 0), 1, 1) := by kernel_rfl
theorem iter_kept {e B : Nat} {w w' : World} {v : Value} {L : List UInt8} (h : Buf e B w w' v L) {k : Nat} {s : ByteArray} {pos : Nat} (hk : w.heap[k]? = some (.stringIter s pos)) : w'.heap[k]? = some (.stringIter s pos) :=
  h.kept k _ hk (by simp) (fun _ _ e1 => by cases e1)
theorem alloc_drew_new (w : World) (o : Obj) : (w.alloc o).drew.heap[w.heap.size]? = some o := heap_alloc_new w o
theorem iterPos_of {w : World} {k : Nat} {s : ByteArray} {pos : Nat} (hk : w.heap[k]? = some (.stringIter s pos)) : w.iterPos k = pos := by simp [World.iterPos, hk]
theorem bytes_len (s : ByteArray) : s.data.toList.length = s.size := by simp
theorem letter_get (k : Nat) (h : k < 5) : (⟨#[70, 83, 82, 69, 84]⟩ : ByteArray)[k]'(show k < 5 from h) = letters.getD k 0 := by
  match k, h with
  | 0, _ => rfl
  | 1, _ => rfl
  | 2, _ => rfl
  | 3, _ => rfl
  | 4, _ => rfl

set_option maxHeartbeats 4000000 in
set_option maxRecDepth 100000 in
theorem appendEscaped_any (v : Value) (L : List UInt8) (B : Nat) (m s : ByteArray) (w : World) (hm : m.size = 5) (hp : plainB s = true) (hL : L.length + 3 * s.size ≤ 90000000) (hB : B ≤ w.heap.size)
    (ho : w.ownsRow B 5 1 v L.length (u8s L)) :
    Calls Tryz.prog 80 #[v, .string m, .string s] w fun e w' => ∃ v', e = .returned v' ∧ Buf 5 B w w' v' (L ++ escL m s.data.toList) := by
  have HO := hideF ho
  clear ho
  go_enter Tryz.func80, Tryz.ntmps80
  go_wp2
  go_loopw [0] (fun v' w' => ∃ (X : World) (k : Nat), X = w' ∧ k ≤ s.size ∧ w'.heap[w.heap.size]? = some (.stringIter s k) ∧ Buf 5 B w w' v' (L ++ escL m (s.data.toList.take k))) (fun _ w' => s.size - w'.iterPos w.heap.size)
  case atStart =>
    exact ⟨_, 0, rfl, Nat.zero_le _, World.iter_heap _ _ _, by
      have h := (Buf.start HO.out hB).alloc (.stringIter s 0)
      simp only [List.take_zero, escL, List.flatMap_nil, List.append_nil]
      exact h⟩
  case round =>
    obtain ⟨X, k, rfl, hk, hit, hbuf⟩ := hrel
    have HBf := hideF hbuf
    clear hbuf
    by_cases hlt : k < s.size
    · have hpk := plainB_at hp k hlt
      have hnx : ∀ ty, (Instr.next (.pointer (some ⟨w.heap.size, 0, none⟩)) true ty).run Tryz.prog X = _ := fun ty => Lib.run_next_ascii_at X w.heap.size s k ty hit hlt (by omega)
      have hit2 := Lib.iterAt_heap X w.heap.size s k (k + 1) hit
      have HB2 := hideF (HBf.out.iterAt hit (Nat.le_refl _) (k + 1))
      go_wp2_with fail
      refine (indexRune_low _ _ _ (by omega) (by omega)).mono ?_
      rintro e w' ⟨rfl, rfl⟩
      generalize X.iterAt w.heap.size s (k + 1) = Y at *
      rw [u8_back]
      by_cases hneg : Lib.indexByte m.data.toList (s[k]'hlt) < 0
      · have hesc : escOne m (s[k]'hlt) = [s[k]'hlt] := by unfold escOne; rw [if_neg (by omega)]
        have HE := hideF hesc
        clear hesc
        have HB3 := hideF ((Buf.start HB2.out.own HB2.out.size).alloc (.cells #[.int .u8 ((s[k]'hlt).toNat : Int)] 5))
        have HC := hideF (heap_alloc_new Y (.cells #[.int .u8 ((s[k]'hlt).toNat : Int)] 5))
        have hl := escL_len m (s.data.toList.take k)
        rw [List.length_take, bytes_len] at hl
        have hl2 : (L ++ escL m (s.data.toList.take k)).length + [s[k]'hlt].length ≤ 100000000 := by simp only [List.length_append, List.length_cons, List.length_nil]; omega
        clear hl
        have HL2 := hideF hl2
        clear hl2
        go_wp2_with (at_builtin; refine wpList_buf rfl (.tmp 20) (.tmp 23) 74 rfl B 5 Tryz.underlying74 Tryz.infoByte _ _ rfl HB3.out Y.heap.size 1 [s[k]'hlt] rfl rfl ⟨_, HC.out⟩ HL2.out ?_)
        intro v2 w2 hb2
        have hit3 := iter_kept hb2 hit2
        have HB4 := hideF (HB2.out.trans hb2)
        clear hb2
        go_wp2
        go_roundw
        case rel =>
          refine ⟨_, k + 1, rfl, by omega, hit3, ?_⟩
          rw [take_snoc s k hlt, escL_snoc, HE.out]
          simpa only [List.append_assoc] using HB4.out
        case measure => rw [iterPos_of hit3, iterPos_of hit]; omega
      · obtain ⟨q, hq⟩ : ∃ q : Nat, Lib.indexByte m.data.toList (s[k]'hlt) = q := ⟨_, (Int.toNat_of_nonneg (by omega)).symm⟩
        have hq5 : q < 5 := by have := indexByte_lt m.data.toList (s[k]'hlt); rw [bytes_len] at this; omega
        have hesc : escOne m (s[k]'hlt) = [bAt m 3, letters.getD q 0, bAt m 3] := by unfold escOne; rw [if_pos (by omega), hq]; rfl
        have HE := hideF hesc
        clear hesc
        rw [hq]
        clear hq hneg
        have h3 := bAt_get m 3 (by omega)
        have hlq := letter_get q hq5
        have HB3 := hideF (Buf.start HB2.out.own HB2.out.size)
        have hl := escL_len m (s.data.toList.take k)
        rw [List.length_take, bytes_len] at hl
        have hl2 : (L ++ escL m (s.data.toList.take k)).length + [bAt m 3, letters.getD q 0, bAt m 3].length ≤ 100000000 := by simp only [List.length_append, List.length_cons, List.length_nil]; omega
        clear hl
        have HL2 := hideF hl2
        clear hl2
        rw [h3, hlq.symm] at HE
        rw [h3, hlq.symm] at HL2
        clear h3 hlq
        have h3m : 3 < m.size := by omega
        have hq5i : (q : Int) < 5 := by omega
        go_wp2_with fail
        go_region_held3 (fun _ => True) (trivial)
          ((refine step_buf (w0 := Y) ?_ (.tmp 25) (.tmp 32) 74 ?_ B 5 Tryz.underlying74 Tryz.infoByte u0 (L ++ escL m (s.data.toList.take k)) ?_ ?_ Y.heap.size 3 [m[3]'h3m, (⟨#[70, 83, 82, 69, 84]⟩ : ByteArray)[q]'(show q < 5 from hq5), m[3]'h3m] ?_ ?_ ?_ ?_ ?_; rfl; rfl; rfl; exact (HB3.out.alloc _).drew; rfl; rfl; exact ⟨_, alloc_drew_new _ _⟩; exact HL2.out; intro v2 w2 hb2; have HB5 := hideF hb2; clear hb2))
        all_goals
          have hit3 := iter_kept HB5.out hit2
          have HB4 := hideF (HB2.out.trans HB5.out)
          clear HB5
          go_wp2
          go_roundw
          case rel =>
            refine ⟨_, k + 1, rfl, by omega, hit3, ?_⟩
            rw [take_snoc s k hlt, escL_snoc, HE.out]
            simpa only [List.append_assoc] using HB4.out
          case measure => rw [iterPos_of hit3, iterPos_of hit]; omega
    · have hnx : ∀ ty, (Instr.next (.pointer (some ⟨w.heap.size, 0, none⟩)) true ty).run Tryz.prog X = _ := fun ty => Lib.run_next_end_at X w.heap.size s k ty hit hlt
      go_wp2
      go_ret
      have e1 : k = s.size := by omega
      subst e1
      have e2 : s.data.toList.take s.size = s.data.toList := List.take_of_length_le (by simp)
      have := HBf.out
      rw [e2] at this
      exact ⟨_, rfl, this⟩
end Go.Proofs.YtckcfjibiidafaaGreat
