/-
  ValueOf and Alive of the specification.
-/
import Derived.Test.YtnmmmhkafdhfcaaDoorBokV
namespace Go.Proofs.YtnmmmhkafdhfcaaDoor.Bk
/-- What ValueOf answers; the Keys that are not Gone. -/
def valB (L : List En) (k : Bytes) : Bytes × Bool := if okBk L = true then (match look L k with
    | some e => if e.gone = true then ([], false) else (e.value, true)
    | none => ([], false)) else ([], false)
def aliveB (L : List En) : List Bytes := if okBk L = true then (L.filter fun e => !e.gone).map (·.key) else []
theorem val_no {L : List En} {k : Bytes} (h : okBk L = false) : valB L k = ([], false) := by unfold valB; rw [if_neg (by rw [h]; decide)]
theorem val_none {L : List En} {k : Bytes} (h : okBk L = true) (hl : look L k = none) : valB L k = ([], false) := by unfold valB; rw [if_pos h, hl]
theorem val_gone {L : List En} {k : Bytes} {e : En} (h : okBk L = true) (hl : look L k = some e) (hg : e.gone = true) : valB L k = ([], false) := by unfold valB; rw [if_pos h, hl]; simp [hg]
theorem val_some {L : List En} {k : Bytes} {e : En} (h : okBk L = true) (hl : look L k = some e) (hg : e.gone = false) : valB L k = (e.value, true) := by unfold valB; rw [if_pos h, hl]; simp [hg]
end Go.Proofs.YtnmmmhkafdhfcaaDoor.Bk
namespace Go.Proofs.YtnmmmhkafdhfcaaDoor.En
open Go.ChangeShapes Go.WideShapes Go.ChangeAt Go.RowKit
open Go.Proofs.YtnmmmhkafdhfcaaDoor.Bk (Bytes okE newB okBk Ris IsJoin joinB valB aliveB)
set_option linter.unusedVariables false
/-- The first of a Key. -/
theorem look_first {L : List Rw} {k : Bytes} {i : Nat} (hi : i < L.length) (h1 : ∀ j, j < i → kat L j ≠ k) (h2 : kat L i = k) : Bk.look (toB L) k = some (toE (rat L i)) := by
  have e : toB L = toB (L.take i) ++ toE (rat L i) :: toB (L.drop (i + 1)) := by
    conv => lhs; rw [split_at hi]
    simp [toB]
  rw [e, Bk.look_append, Bk.look_cons, if_pos (show (toE (rat L i)).key = k from h2), Bk.look_none_of (fun x hx => ?_)]
  · rfl
  · obtain ⟨y, hy, rfl⟩ := List.mem_map.1 hx
    obtain ⟨j, hj, rfl⟩ := List.mem_iff_getElem.1 hy
    rw [List.length_take] at hj
    have := h1 j (by omega)
    unfold kat at this
    rw [rat_at (by omega)] at this
    rw [List.getElem_take]
    exact this
theorem look_all {L : List Rw} {k : Bytes} (h : ∀ j, j < L.length → kat L j ≠ k) : Bk.look (toB L) k = none :=
  Bk.look_none_of (fun x hx => by
    obtain ⟨y, hy, rfl⟩ := List.mem_map.1 hx
    obtain ⟨j, hj, rfl⟩ := List.mem_iff_getElem.1 hy
    have := h j hj
    unfold kat at this
    rw [rat_at hj] at this
    exact this)
set_option maxRecDepth 100000 in
set_option maxHeartbeats 4000000 in
theorem spec_l11At (a : Option Addr) (cap : Nat) (L : List Rw) (s : ByteArray) (w : World) (h : Rd w a L) (hl : L.length ≤ 9223372036854775806) :
    Calls Tryd.prog 49 #[.slice a L.length cap, .string s] w fun e w' => ∃ r : Int, e = .returned (.int .i64 r) ∧ w' = w ∧ ((r = -1 ∧ Bk.look (toB L) (bs s) = none) ∨ ∃ i : Nat, r = i ∧ i < L.length ∧ Bk.look (toB L) (bs s) = some (toE (rat L i))) := by
  have F1 := hidIt (fun i hi h1 h2 => look_first (L := L) (k := bs s) (i := i) hi h1 h2)
  have F2 := hidIt (fun h => look_all (L := L) (k := bs s) h)
  generalize Bk.look (toB L) (bs s) = o at F1 F2 ⊢
  have HR := hidIt h
  clear h
  generalize hn : L.length = m at *
  have HN := hidIt hn
  clear hn
  go_enter Tryd.func49, Tryd.ntmps49
  go_wp2_with (fail)
  go_loopw [5] (fun y wx => ∃ i : Nat, y = .int .i64 i ∧ i ≤ m ∧ Hid (∀ j, j < i → kat L j ≠ bs s) ∧ Hid (wx = w)) (fun y _ => (m - intOf y).toNat)
  case atStart => exact ⟨0, rfl, by omega, hidIt (fun j hj => by omega), hidIt rfl⟩
  case round =>
    obtain ⟨i, rfl, hi, HE, HW⟩ := hrel
    have ew := HW.out
    subst ew
    by_cases hin : i < m
    · have hin' : (i : Int) < (m : Int) := by omega
      obtain ⟨b, off, rfl, c0, _⟩ := HR.out.all (i := i) (by rw [HN.out]; exact hin)
      have hkey : Hid (kat L i = bs (rat L i).1) := hidIt rfl
      generalize (rat L i).1 = k at c0 hkey
      have heq := eq_of k s
      by_cases hk : bs k = bs s
      · rw [decide_eq_true hk] at heq
        have er := hidIt (F1.out i hin HE.out (by rw [hkey.out]; exact hk))
        clear hk
        go_wp2_with (fail)
        go_ret
        first | exact ⟨_, rfl, rfl, .inr ⟨i, rfl, hin, er.out⟩⟩ | exact ⟨_, rfl, .inr ⟨i, rfl, hin, er.out⟩⟩
      · rw [decide_eq_false hk] at heq
        have HE' : Hid (∀ j, j < i + 1 → kat L j ≠ bs s) := hidIt (fun j hj => by
          rcases Nat.lt_succ_iff_lt_or_eq.1 hj with h | h
          · exact HE.out j h
          · subst h; rw [hkey.out]; exact hk)
        clear hk HE
        go_wp2_with (fail)
        exact ⟨⟨i + 1, by simp, by omega, HE', by first | exact hidIt rfl | exact hidIt trivial⟩, by simp [intOf]; omega⟩
    · have hin' : ¬ (i : Int) < (m : Int) := by omega
      have HI : Hid (i = m) := hidIt (by omega)
      have er := hidIt (F2.out (fun j hj => HE.out j (by have := HI.out; omega)))
      go_wp2_with (fail)
      go_ret
      first | exact ⟨_, rfl, rfl, .inl ⟨rfl, er.out⟩⟩ | exact ⟨_, rfl, .inl ⟨rfl, er.out⟩⟩
set_option maxRecDepth 100000 in
set_option maxHeartbeats 4000000 in
theorem spec_l11Value (a : Option Addr) (cap : Nat) (L : List Rw) (s : ByteArray) (w : World) (h : Rd w a L) (hl : L.length ≤ 9223372036854775806) (hok : okBk (toB L) = true) :
    Calls Tryd.prog 36 #[.slice a L.length cap, .string s] w fun e w' => ∃ u : ByteArray, e = .returned (.tuple #[.string u, .bool (valB (toB L) (bs s)).2]) ∧ bs u = (valB (toB L) (bs s)).1 ∧ (u = ByteArray.empty ∨ ∃ i, i < L.length ∧ u = (rat L i).2.1) ∧ w' = w := by
  have CA := hidIt (spec_l11At a cap L s w h hl)
  have V1 := hidIt (fun h => Bk.val_none (k := bs s) hok h)
  have V2 := hidIt (fun e h g => Bk.val_gone (k := bs s) (e := e) hok h g)
  have V3 := hidIt (fun e h g => Bk.val_some (k := bs s) (e := e) hok h g)
  generalize valB (toB L) (bs s) = r at V1 V2 V3 ⊢
  have HR := hidIt h
  clear h hok
  generalize hn : L.length = m at *
  have HN := hidIt hn
  clear hn
  go_enter Tryd.func36, Tryd.ntmps36
  go_wp2_with (fail)
  refine CA.out.mono ?_
  rintro e w1 ⟨x, rfl, rfl, ⟨rfl, hnone⟩ | ⟨i, rfl, hi, hsome⟩⟩
  · have er := V1.out hnone
    clear hnone
    subst er
    go_wp2_with (fail)
    refine bodyPost_ret (v := .tuple #[.string ⟨#[]⟩, .bool false]) (by simp [results, Tryd.results36, go_sem]) rfl ⟨⟨#[]⟩, rfl, rfl, .inl rfl, rfl⟩
  · obtain ⟨b, off, ea, c0, c1, c2, c3, c4⟩ := HR.out.all (i := i) (by rw [HN.out]; exact hi)
    subst ea
    have hi1 : (i : Int) < (m : Int) := by omega
    have hi0 : ¬ (i : Int) < 0 := by omega
    have HX : Hid (∃ j, j < m ∧ (rat L i).2.1 = (rat L j).2.1) := hidIt ⟨i, hi, rfl⟩
    have W2 := hidIt (fun g => V2.out _ hsome g)
    have W3 := hidIt (fun g => V3.out _ hsome g)
    clear hsome
    generalize rat L i = x at c0 c1 c2 c3 c4 HX W2 W3
    obtain ⟨xk, xv, xt, xn, xg⟩ := x
    simp only at c0 c1 c2 c3 c4 HX
    cases xg with
    | true =>
      have er := W2.out rfl
      subst er
      go_wp2_with (fail)
      refine bodyPost_ret (v := .tuple #[.string ⟨#[]⟩, .bool false]) (by simp [results, Tryd.results36, go_sem]) rfl ⟨⟨#[]⟩, rfl, rfl, .inl rfl, rfl⟩
    | false =>
      have er := W3.out rfl
      subst er
      go_wp2_with (fail)
      refine bodyPost_ret (v := .tuple #[.string xv, .bool true]) (by simp [results, Tryd.results36, go_sem]) rfl ⟨xv, rfl, rfl, .inr HX.out, rfl⟩
/-- The Keys that are not Gone, as texts. -/
def keysR (L : List Rw) : List ByteArray := (L.filter fun x => !x.2.2.2.2).map (·.1)
def aliveR (L : List Rw) : List ByteArray := if okBk (toB L) = true then keysR L else []
theorem keysR_take {L : List Rw} {i : Nat} (h : i < L.length) : keysR (L.take (i + 1)) = if (rat L i).2.2.2.2 = true then keysR (L.take i) else keysR (L.take i) ++ [(rat L i).1] := by
  unfold keysR
  rw [take_rat h, List.filter_append, List.map_append]
  cases hg : (rat L i).2.2.2.2 with
  | true => simp [hg]
  | false => simp [hg]
theorem keysR_length (L : List Rw) : (keysR L).length ≤ L.length := by
  unfold keysR
  rw [List.length_map]
  exact List.length_filter_le _ _
theorem alive_len (L : List Rw) : (aliveR L).length ≤ 80 := by
  unfold aliveR
  by_cases h : okBk (toB L) = true
  · rw [if_pos h]
    have h1 : L.length ≤ 80 := by
      have := Bk.ok_len h
      rw [toB_length] at this
      exact this
    have h2 : (keysR L).length ≤ L.length := by unfold keysR; rw [List.length_map]; exact List.length_filter_le _ _
    omega
  · rw [if_neg h]; simp
theorem alive_bs (L : List Rw) : (aliveR L).map bs = aliveB (toB L) := by
  unfold aliveR aliveB keysR
  by_cases h : okBk (toB L) = true
  · rw [if_pos h, if_pos h, List.map_map, toB, List.filter_map, List.map_map]
    rfl
  · rw [if_neg h, if_neg h]
    rfl
theorem infoStr : (Tryd.prog.info? 9).map (fun i => (i.zero, i.size, i.bytes)) = some (some (.string ByteArray.empty), 1, 16) := by kernel_rfl
theorem freshS (w : World) (s : ByteArray) (T : TypeId) : ∀ j u, ([Value.string s] : List Value)[j]? = some u → (w.alloc (.cells #[.string s] T)).cell? ((⟨w.heap.size, 0, none⟩ : Addr).add j) = some u := by
  intro j u hj
  match j, hj with
  | 0, hj => simp at hj; subst hj; simp [Addr.add]
end Go.Proofs.YtnmmmhkafdhfcaaDoor.En
