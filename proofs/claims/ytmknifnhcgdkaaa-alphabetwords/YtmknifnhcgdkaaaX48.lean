/-
  The document's alphabet: rising, edges, mask.
-/
import Derived.Test.YtmknifnhcgdkaaaX47
namespace Go.Proofs.Ytmknifnhcgdkaaa
open Go.RowKit
set_option linter.unusedVariables false

set_option maxRecDepth 100000 in
set_option maxHeartbeats 4000000 in
theorem rising9_any (l : List Int) (n : Int) (v : Value) (w : World) (h1 : 1 ≤ l.length) (hlen : l.length ≤ 100000) (hv : IntsIn w v l) :
    Calls Try.prog 45 #[v, .int .i64 n] w fun e w' => ∃ v', e = .returned v' ∧ IntsIn w' v' (insE l n) ∧ Below w.heap.size w w' := by
  obtain ⟨iI, hiI, hzI0, hzI1, hzI2⟩ := info_parts Try.infoInt
  have HV0 : Hid (IntsIn w v l) := hv
  obtain ⟨a, cap, rfl, hc, hcell⟩ := hv
  obtain ⟨g, off, rfl, hg, _⟩ := hcell 0 (by omega)
  have HA : Hid (∀ i, (h : i < l.length) → w.cell? ⟨g, off + i, none⟩ = some (.int .i64 l[i])) := fun i h => by
    obtain ⟨g', off', e, _, hc'⟩ := hcell i h
    obtain ⟨rfl, rfl⟩ : g = g' ∧ off = off' := by simpa using e
    exact hc'
  have HV : Hid (IntsIn w (.slice (some ⟨g, off, none⟩) l.length cap) l) := HV0
  clear hcell HV0
  go_enter Try.func45, Try.ntmps45
  go_wp2
  go_loopw [5] (fun x wr => ∃ k : Nat, k ≤ l.length ∧ x = .int .i64 k ∧ (∀ i, (h : i < l.length) → i < k → l[i] < n) ∧ wr = w) (fun x _ => l.length - (intOf x).toNat)
  case atStart => exact ⟨0, Nat.zero_le _, rfl, fun i h q => by omega, rfl⟩
  case round =>
    obtain ⟨k, hk, rfl, hlo, rfl⟩ := hrel
    have HLO : Hid (∀ i, (h : i < l.length) → i < k → l[i] < n) := hlo
    clear hlo
    have hown0 := owns_empty wr wr.heap.size 3 1 (Nat.le_refl _)
    have HO0 : Hid ((wr.alloc (.cells #[] 3)).ownsRow wr.heap.size 3 1 (.slice (some ⟨wr.heap.size, 0, none⟩) 0 0) 0 []) := hown0
    have HS1 : Hid (SrcIs (wr.alloc (.cells #[] 3)) (.slice (some ⟨g, off, none⟩) k cap) k 1 ((l.take k).map (Value.int .i64))) := (src_take HV.out k hk cap).below ((Below.refl _ _).alloc (Nat.le_refl _) _)
    clear hown0
    by_cases hlt : k < l.length
    · have hck := HA.out k hlt
      obtain ⟨y, hy⟩ : ∃ y, y = l[k] := ⟨_, rfl⟩
      rw [← hy] at hck
      have HY : Hid (y = l[k]) := hy
      clear hy
      have hk' : (k : Int) < (l.length : Int) := by omega
      by_cases q : y < n
      · have HL2 : Hid (∀ i, (h : i < l.length) → i < k + 1 → l[i] < n) := fun i h z => by
          by_cases e : i = k
          · subst e; rw [← HY.out]; exact q
          · exact HLO.out i h (by omega)
        go_wp2
        go_roundw
        case rel => exact ⟨k + 1, by omega, by go_num, HL2.out, trivial⟩
        case measure => simp [intOf]; omega
      · have HI : Hid _ := insE_at l n k hk HLO.out (fun _ => by rw [← HY.out]; omega)
        by_cases q2 : y = n
        · have HE : Hid (insE l n = l) := by
            show _ = _
            rw [HI.out, if_pos ⟨hlt, by rw [← HY.out]; exact q2⟩]
          have hq2 : (y == n) = true := by simp [q2]
          clear q2
          go_wp2
          go_ret
          exact ⟨_, rfl, by rw [HE.out]; exact HV.out, Below.refl _ _⟩
        · have HE : Hid (insE l n = l.take k ++ n :: l.drop k) := by
            show _ = _
            rw [HI.out, if_neg (by rintro ⟨_, z⟩; exact q2 (by rw [HY.out]; exact z))]
          have hq2 : (y == n) = false := by simp [q2]
          clear q2 HI
          have HAD : Hid (∀ W, Below wr.heap.size wr W → SrcIs W (.slice (some ⟨g, off + k, none⟩) (l.length - k) (cap - k)) (l.length - k) 1 ((l.drop k).map (Value.int .i64))) := fun W hW => (src_drop HV.out k hk ⟨g, off + k, none⟩ (fun _ => rfl) (cap - k)).below hW
          go_wp2_with (first | (at_builtin; refine wpList_append_src _ rfl (.tmp 34) (.tmp 37) 23 rfl wr.heap.size 3 iI (.int .i64 0) 1 8 Try.underlying23 hiI hzI0 hzI1 hzI2 rfl (by decide) _ _ _ rfl HO0.out _ rfl k _ HS1.out (by unfold maxLen; omega) (by omega) (by simp) ?_; intro v1 w1 ho1 hg1; have hB1 : Below wr.heap.size wr w1 := ((Below.refl _ _).alloc (Nat.le_refl _) _).grown hg1 (by simp) (fun j e => (World.ownsRow.lt HO0.out j e).1); have hs1 := hB1.size; have ho1' := World.ownsRow.alloc ho1 (.cells #[.int .i64 n] 3); have hsr1 := src_one w1 n; have HO1 : Hid ((w1.alloc (.cells #[.int .i64 n] 3)).ownsRow wr.heap.size 3 1 v1 (0 + k) ([] ++ (l.take k).map (Value.int .i64))) := ho1'; clear ho1 ho1' hg1) | (at_builtin; refine wpList_append_src _ rfl (.tmp 39) (.tmp 41) 23 rfl wr.heap.size 3 iI (.int .i64 0) 1 8 Try.underlying23 hiI hzI0 hzI1 hzI2 rfl (by decide) _ _ _ rfl HO1.out _ rfl 1 _ hsr1 (by unfold maxLen; omega) (by omega) (by simp; omega) ?_; intro v2 w2 ho2 hg2; have hB2 : Below wr.heap.size wr w2 := (hB1.alloc hs1 _).grown hg2 (by simp; omega) (fun j e => (World.ownsRow.lt HO1.out j e).1); have hs2 := hB2.size; have hsr2 := HAD.out w2 hB2; have HO2 : Hid (w2.ownsRow wr.heap.size 3 1 v2 (0 + k + 1) ([] ++ (l.take k).map (Value.int .i64) ++ [.int .i64 n])) := ho2; clear ho2 hg2 hsr1) | (at_builtin; refine wpList_append_src _ rfl (.tmp 43) (.tmp 46) 23 rfl wr.heap.size 3 iI (.int .i64 0) 1 8 Try.underlying23 hiI hzI0 hzI1 hzI2 rfl (by decide) _ _ _ rfl HO2.out _ rfl (l.length - k) _ hsr2 (by unfold maxLen; omega) (by omega) (by omega) ?_; intro v3 w3 ho3 hg3))
          go_ret
          refine ⟨v3, rfl, ?_, hB2.grown hg3 hs2 (fun j e => (World.ownsRow.lt HO2.out j e).1)⟩
          rw [HE.out]
          refine ints_of_row (base := wr.heap.size) ?_
          have e : (l.take k ++ n :: l.drop k).length = 0 + k + 1 + (l.length - k) := by simp; omega
          rw [e]
          simpa using ho3
    · obtain rfl : k = l.length := by omega
      have HI : Hid _ := insE_at l n l.length (Nat.le_refl _) HLO.out (fun h => absurd h (Nat.lt_irrefl _))
      have HE : Hid (insE l n = l.take l.length ++ n :: l.drop l.length) := by
        show _ = _
        rw [HI.out, if_neg (by rintro ⟨z, _⟩; exact Nat.lt_irrefl _ z)]
      have hid : decide ((l.length : Int) < (l.length : Int)) = false := by simp
      clear HI
      have HAD : Hid (∀ W ad c, SrcIs W (.slice (some ad) 0 c) 0 1 []) := fun W ad c => .inr ⟨ad, c, rfl, rfl, fun j u hj => by simp at hj, fun u hu => by cases hu⟩
      by_cases hcl : cap = l.length
      · subst hcl
        go_wp2_with (first | (at_builtin; refine wpList_append_src _ rfl (.tmp 34) (.tmp 37) 23 rfl wr.heap.size 3 iI (.int .i64 0) 1 8 Try.underlying23 hiI hzI0 hzI1 hzI2 rfl (by decide) _ _ _ rfl HO0.out _ rfl l.length _ HS1.out (by unfold maxLen; omega) (by omega) (by simp) ?_; intro v1 w1 ho1 hg1; have hB1 : Below wr.heap.size wr w1 := ((Below.refl _ _).alloc (Nat.le_refl _) _).grown hg1 (by simp) (fun j e => (World.ownsRow.lt HO0.out j e).1); have hs1 := hB1.size; have ho1' := World.ownsRow.alloc ho1 (.cells #[.int .i64 n] 3); have hsr1 := src_one w1 n; have HO1 : Hid ((w1.alloc (.cells #[.int .i64 n] 3)).ownsRow wr.heap.size 3 1 v1 (0 + l.length) ([] ++ (l.take l.length).map (Value.int .i64))) := ho1'; clear ho1 ho1' hg1) | (at_builtin; refine wpList_append_src _ rfl (.tmp 39) (.tmp 41) 23 rfl wr.heap.size 3 iI (.int .i64 0) 1 8 Try.underlying23 hiI hzI0 hzI1 hzI2 rfl (by decide) _ _ _ rfl HO1.out _ rfl 1 _ hsr1 (by unfold maxLen; omega) (by omega) (by simp; omega) ?_; intro v2 w2 ho2 hg2; have hB2 : Below wr.heap.size wr w2 := (hB1.alloc hs1 _).grown hg2 (by simp; omega) (fun j e => (World.ownsRow.lt HO1.out j e).1); have hs2 := hB2.size; have hsr2 := HAD.out w2 ⟨g, off, none⟩ 0; have HO2 : Hid (w2.ownsRow wr.heap.size 3 1 v2 (0 + l.length + 1) ([] ++ (l.take l.length).map (Value.int .i64) ++ [.int .i64 n])) := ho2; clear ho2 hg2 hsr1) | (at_builtin; go_must (refine wpList_append_src _ rfl (.tmp 43) (.tmp 46) 23 rfl wr.heap.size 3 iI (.int .i64 0) 1 8 Try.underlying23 hiI hzI0 hzI1 hzI2 rfl (by decide) _ _ _ rfl HO2.out _ rfl 0 [] hsr2 (by unfold maxLen; omega) (by omega) (by omega) ?_); intro v3 w3 ho3 hg3))
        go_ret
        refine ⟨v3, rfl, ?_, hB2.grown hg3 hs2 (fun j e => (World.ownsRow.lt HO2.out j e).1)⟩
        rw [HE.out]
        refine ints_of_row (base := wr.heap.size) ?_
        have e : (l.take l.length ++ n :: l.drop l.length).length = 0 + l.length + 1 + 0 := by simp
        rw [e]
        simpa using ho3
      · have hcl' : (cap == l.length) = false := by simp [hcl]
        go_wp2_with (first | (at_builtin; refine wpList_append_src _ rfl (.tmp 34) (.tmp 37) 23 rfl wr.heap.size 3 iI (.int .i64 0) 1 8 Try.underlying23 hiI hzI0 hzI1 hzI2 rfl (by decide) _ _ _ rfl HO0.out _ rfl l.length _ HS1.out (by unfold maxLen; omega) (by omega) (by simp) ?_; intro v1 w1 ho1 hg1; have hB1 : Below wr.heap.size wr w1 := ((Below.refl _ _).alloc (Nat.le_refl _) _).grown hg1 (by simp) (fun j e => (World.ownsRow.lt HO0.out j e).1); have hs1 := hB1.size; have ho1' := World.ownsRow.alloc ho1 (.cells #[.int .i64 n] 3); have hsr1 := src_one w1 n; have HO1 : Hid ((w1.alloc (.cells #[.int .i64 n] 3)).ownsRow wr.heap.size 3 1 v1 (0 + l.length) ([] ++ (l.take l.length).map (Value.int .i64))) := ho1'; clear ho1 ho1' hg1) | (at_builtin; refine wpList_append_src _ rfl (.tmp 39) (.tmp 41) 23 rfl wr.heap.size 3 iI (.int .i64 0) 1 8 Try.underlying23 hiI hzI0 hzI1 hzI2 rfl (by decide) _ _ _ rfl HO1.out _ rfl 1 _ hsr1 (by unfold maxLen; omega) (by omega) (by simp; omega) ?_; intro v2 w2 ho2 hg2; have hB2 : Below wr.heap.size wr w2 := (hB1.alloc hs1 _).grown hg2 (by simp; omega) (fun j e => (World.ownsRow.lt HO1.out j e).1); have hs2 := hB2.size; have hsr2 := HAD.out w2 ⟨g, off + l.length, none⟩ (cap - l.length); have HO2 : Hid (w2.ownsRow wr.heap.size 3 1 v2 (0 + l.length + 1) ([] ++ (l.take l.length).map (Value.int .i64) ++ [.int .i64 n])) := ho2; clear ho2 hg2 hsr1) | (at_builtin; go_must (refine wpList_append_src _ rfl (.tmp 43) (.tmp 46) 23 rfl wr.heap.size 3 iI (.int .i64 0) 1 8 Try.underlying23 hiI hzI0 hzI1 hzI2 rfl (by decide) _ _ _ rfl HO2.out _ rfl 0 [] hsr2 (by unfold maxLen; omega) (by omega) (by omega) ?_); intro v3 w3 ho3 hg3))
        go_ret
        refine ⟨v3, rfl, ?_, hB2.grown hg3 hs2 (fun j e => (World.ownsRow.lt HO2.out j e).1)⟩
        rw [HE.out]
        refine ints_of_row (base := wr.heap.size) ?_
        have e : (l.take l.length ++ n :: l.drop l.length).length = 0 + l.length + 1 + 0 := by simp
        rw [e]
        simpa using ho3

theorem fold_flat (S : List (List Rg)) (k : Nat) (out : List Int) : ((S.take k).flatten).foldl stepE out = (S.take k).foldl (fun o s => s.foldl stepE o) out := by
  rw [List.foldl_flatten]
theorem edges_take {S : List (List Rg)} {k : Nat} (h : k < S.length) : ((S.take (k + 1)).flatten).foldl stepE [0] = S[k].foldl stepE (((S.take k).flatten).foldl stepE [0]) := by
  rw [List.take_succ_eq_append_getElem h, List.flatten_append, List.foldl_append]
  simp
theorem fold_take {s : List Rg} {j : Nat} (h : j < s.length) (out : List Int) : (s.take (j + 1)).foldl stepE out = stepE ((s.take j).foldl stepE out) s[j] := by
  rw [List.take_succ_eq_append_getElem h, List.foldl_append]
  rfl
theorem fold_pos : ∀ (l : List Rg) (out : List Int), 1 ≤ out.length → 1 ≤ (l.foldl stepE out).length
  | [], out, h => h
  | r :: l, out, h => by rw [List.foldl_cons]; exact fold_pos l _ (stepE_pos _ _)
theorem flat_le {S : List (List Rg)} {k : Nat} (h : k < S.length) : (S.take k).flatten.length + S[k].length ≤ S.flatten.length := by
  have h1 := flat_take h
  have e2 := congrArg (fun q => q.flatten.length) (List.take_append_drop (k + 1) S)
  simp only [List.flatten_append, List.length_append] at e2
  omega

set_option maxRecDepth 100000 in
set_option maxHeartbeats 8000000 in
theorem edges9_any (S : List (List Rg)) (v : Value) (w : World) (hbig : S.length ≤ 1000000) (hlen : S.flatten.length ≤ 40000) (hf : Fits S.flatten) (hv : StsIn w v S) :
    Calls Try.prog 32 #[v] w fun e w' => ∃ v', e = .returned v' ∧ IntsIn w' v' (edgS S) ∧ Below w.heap.size w w' := by
  have HV : Hid (StsIn w v S) := hv
  have HF : Hid (Fits S.flatten) := hf
  have HED : Hid (edgS S = S.flatten.foldl stepE [0]) := rfl
  obtain ⟨a, cap, rfl, hc, _⟩ := hv
  have HI0 : Hid (IntsIn (w.alloc (.cells #[.int .i64 0] 3)) (.slice (some ⟨w.heap.size, 0, none⟩) 1 1) [0]) := ints_lit w 0
  have HB0 : Hid (Below w.heap.size w (w.alloc (.cells #[.int .i64 0] 3))) := (Below.refl _ _).alloc (Nat.le_refl _) _
  clear hf
  go_enter Try.func32, Try.ntmps32
  go_wp2
  go_loopw [3, 4] (fun y x wr => ∃ k : Nat, k ≤ S.length ∧ x = .int .i64 k ∧ IntsIn wr y (((S.take k).flatten).foldl stepE [0]) ∧ Below w.heap.size w wr) (fun _ x _ => S.length - (intOf x).toNat)
  case atStart => exact ⟨0, Nat.zero_le _, rfl, HI0.out, HB0.out⟩
  case round =>
    obtain ⟨k, hk, rfl, hin, hB⟩ := hrel
    obtain ⟨HI, HB⟩ : Hid (IntsIn wr _ (((S.take k).flatten).foldl stepE [0])) ∧ Hid (Below w.heap.size w wr) := ⟨hin, hB⟩
    obtain ⟨ay, cy, rfl, _, _⟩ := hin
    by_cases hlt : k < S.length
    · have hlt' : (k : Int) < (S.length : Int) := by omega
      have hfl := flat_le hlt
      have hel := edges_length ((S.take k).flatten) [0]
      have hpos := fold_pos ((S.take k).flatten) [0] (by simp)
      obtain ⟨out, hout⟩ : ∃ out, out = ((S.take k).flatten).foldl stepE [0] := ⟨_, rfl⟩
      have HST : Hid (((S.take (k + 1)).flatten).foldl stepE [0] = S[k].foldl stepE out) := by show _ = _; rw [edges_take hlt, hout]
      rw [← hout] at HI hel hpos ⊢
      obtain ⟨a', cap', e, _, hcell⟩ := HV.out
      obtain ⟨rfl, rfl⟩ : a = a' ∧ cap = cap' := by simpa using e
      obtain ⟨gx, ox, z, rfl, hg, hcz, hrz⟩ := hcell k hlt
      have HCZ : Hid (∀ W, Below w.heap.size w W → W.cell? ⟨gx, ox + k, none⟩ = some z) := fun W hW => (hW.cell (p := ⟨gx, _, none⟩) hg).trans hcz
      have HSF : Hid (∀ r ∈ S[k], 0 ≤ r.lo ∧ r.lo ≤ r.hi ∧ r.hi ≤ 1114111) := fun r hr => HF.out r (List.mem_flatten.2 ⟨S[k], List.getElem_mem hlt, hr⟩)
      obtain ⟨s, hs⟩ : ∃ s, s = S[k] := ⟨_, rfl⟩
      rw [← hs] at hrz HST HSF hfl
      obtain ⟨az, cz, rfl, hcz0, hcellz⟩ := hrz.1
      have HA : Hid (∀ i, (h : i < s.length) → ∃ g off, az = some ⟨g, off, none⟩ ∧ g < w.heap.size ∧ w.cell? ⟨g, off + i * 2, none⟩ = some (.int .i64 s[i].lo) ∧ w.cell? ⟨g, off + i * 2 + 1, none⟩ = some (.int .i64 s[i].hi)) := hcellz
      have hol : out.length ≤ 1 + 2 * (S.take k).flatten.length := by simpa using hel
      have hsl : s.length ≤ 40000 := by omega
      have hob : out.length + 2 * s.length ≤ 80001 := by omega
      clear hout hs hrz hcellz hcell e hcz hel hfl hB hol
      obtain ⟨w0, rfl⟩ : ∃ w0, w0 = wr := ⟨_, rfl⟩
      go_wp2
      go_loopw [3, 5] (fun y x wr => ∃ j : Nat, j ≤ s.length ∧ x = .int .i64 j ∧ IntsIn wr y ((s.take j).foldl stepE out) ∧ Below w.heap.size w wr) (fun _ x _ => s.length - (intOf x).toNat)
      case atStart => exact ⟨0, Nat.zero_le _, rfl, HI.out, HB.out⟩
      case round =>
        obtain ⟨j, hj, rfl, hin, hB⟩ := hrel
        have hbs := hB.size
        have hcz := HCZ.out wr hB
        have hel := edges_length (s.take j) out
        have hpo := fold_pos (s.take j) out hpos
        rw [List.length_take, Nat.min_eq_left hj] at hel
        obtain ⟨o2, ho2⟩ : ∃ o2, o2 = (s.take j).foldl stepE out := ⟨_, rfl⟩
        rw [← ho2] at hin hel hpo
        by_cases hjl : j < s.length
        · have hjl' : (j : Int) < (s.length : Int) := by omega
          obtain ⟨g, off, rfl, hg2, c0, c1⟩ := HA.out j hjl
          have hst := fold_take hjl out
          rw [← ho2] at hst
          obtain ⟨r, hr⟩ : ∃ r, r = s[j] := ⟨_, rfl⟩
          have hrf := HSF.out r (by rw [hr]; exact List.getElem_mem hjl)
          rw [← hr] at c0 c1 hst
          have HCR : Hid (∀ W, Below w.heap.size w W → W.cell? ⟨gx, ox + k, none⟩ = some (.slice (some ⟨g, off, none⟩) s.length cz) ∧ W.cell? ⟨g, off + j * 2, none⟩ = some (.int .i64 r.lo) ∧ W.cell? ⟨g, off + j * 2 + 1, none⟩ = some (.int .i64 r.hi)) := fun W hW => ⟨HCZ.out W hW, (hW.cell (p := ⟨g, _, none⟩) hg2).trans c0, (hW.cell (p := ⟨g, _, none⟩) hg2).trans c1⟩
          obtain ⟨_, d0, d1⟩ := HCR.out wr hB
          have HR := rising9_any o2 r.lo _ wr hpo (by omega) hin
          have HB' : Hid (Below w.heap.size w wr) := hB
          obtain ⟨ao, co, rfl, _, _⟩ := hin
          have HSTP : Hid ((s.take (j + 1)).foldl stepE out = if r.hi < 1114111 then insE (insE o2 r.lo) (r.hi + 1) else insE o2 r.lo) := hst
          clear hst hr c0 c1 ho2 hB
          go_wp2_with fail
          refine HR.mono ?_
          rintro e w5 ⟨v5, rfl, hi5, hB5⟩
          clear HR d0 d1 hcz
          have hB5' : Below w.heap.size w w5 := HB'.out.trans (hB5.mono hbs)
          obtain ⟨hcz, d0, d1⟩ := HCR.out w5 hB5'
          have hl5 := insE_length o2 r.lo
          have hp5 := insE_pos o2 r.lo
          have HB5 : Hid (Below w.heap.size w w5) := hB5'
          have hs5 := hB5'.size
          have HI5 : Hid (IntsIn w5 v5 (insE o2 r.lo)) := hi5
          by_cases q : r.hi < 1114111
          · have HR2 := rising9_any (insE o2 r.lo) (r.hi + 1) v5 w5 hp5 (by omega) hi5
            obtain ⟨a5, c5, rfl, _, _⟩ := hi5
            clear hB5 hB5' HCR
            go_wp2_with fail
            refine HR2.mono ?_
            rintro e w6 ⟨v6, rfl, hi6, hB6⟩
            have HB6 : Hid (Below w.heap.size w w6) := HB5.out.trans (hB6.mono hs5)
            have HI6 : Hid (IntsIn w6 v6 (insE (insE o2 r.lo) (r.hi + 1))) := hi6
            obtain ⟨a6, c6, rfl, _, _⟩ := hi6
            clear HR2 hB6 d0 d1 hcz
            go_wp2
            go_roundw
            case rel => exact ⟨j + 1, by omega, by go_num, by rw [HSTP.out, if_pos (by omega)]; exact HI6.out, HB6.out⟩
            case measure => simp [intOf]; omega
          · obtain ⟨a5, c5, rfl, _, _⟩ := hi5
            clear hB5 hB5' HCR
            go_wp2
            go_roundw
            case rel => exact ⟨j + 1, by omega, by go_num, by rw [HSTP.out, if_neg (by omega)]; exact HI5.out, HB5.out⟩
            case measure => simp [intOf]; omega
        · have hjl' : ¬ ((j : Int) < (s.length : Int)) := by omega
          have ej : s.take j = s := List.take_of_length_le (by omega)
          rw [ej] at ho2
          have HE : Hid (o2 = s.foldl stepE out) := ho2
          have HI2 : Hid (IntsIn wr _ o2) := hin
          obtain ⟨ao, co, rfl, _, _⟩ := hin
          clear ej ho2
          go_wp2
          go_roundw
          case rel => exact ⟨k + 1, by omega, by go_num, by rw [HST.out, ← HE.out]; exact HI2.out, hB⟩
          case measure => simp [intOf]; omega
    · have hlt' : ¬ ((k : Int) < (S.length : Int)) := by omega
      obtain rfl : k = S.length := by omega
      rw [List.take_length] at HI ⊢
      go_wp2
      go_ret
      exact ⟨_, rfl, HI.out, HB.out⟩

set_option maxRecDepth 100000 in
set_option maxHeartbeats 4000000 in
theorem rmask_any (S : List (List Rg)) (v : Value) (r : Int) (w : World) (hS : S.length ≤ 60) (hl : ∀ s ∈ S, s.length ≤ 600000) (hv : StsIn w v S) :
    Calls Try.prog 33 #[v, .int .i64 r] w fun e w' => e = .returned (.int .u64 (maskN S r : Nat)) ∧ w' = w := by
  have HV : Hid (StsIn w v S) := hv
  obtain ⟨a, cap, rfl, hc, _⟩ := hv
  have HL : Hid (∀ s ∈ S, s.length ≤ 600000) := hl
  clear hl
  go_enter Try.func33, Try.ntmps33
  go_wp2
  go_loopw [5, 6] (fun m x wr => ∃ k : Nat, k ≤ S.length ∧ x = .int .i64 k ∧ m = .int .u64 (maskN (S.take k) r : Nat) ∧ wr = w) (fun _ x _ => S.length - (intOf x).toNat)
  case atStart => exact ⟨0, Nat.zero_le _, rfl, rfl, rfl⟩
  case round =>
    obtain ⟨k, hk, rfl, rfl, rfl⟩ := hrel
    by_cases hlt : k < S.length
    · have hlt' : (k : Int) < (S.length : Int) := by omega
      obtain ⟨a', cap', e, _, hcell⟩ := HV.out
      obtain ⟨rfl, rfl⟩ : a = a' ∧ cap = cap' := by simpa using e
      obtain ⟨gx, ox, z, rfl, hg, hcz, hrz⟩ := hcell k hlt
      have HH := refHas_any S[k] (HL.out _ (List.getElem_mem hlt)) r z wr hrz.1
      have hst := mask_take hlt r
      have hml := mask_take_lt S k r
      obtain ⟨az, cz, rfl, hj1, hj2⟩ := hrz.1
      obtain ⟨m, hm⟩ : ∃ m, m = maskN (S.take k) r := ⟨_, rfl⟩
      rw [← hm] at hst hml ⊢
      cases q : hasR S[k] r with
      | true =>
        rw [q] at HH hst
        have HST : Hid (maskN (S.take (k + 1)) r = m + 2 ^ k) := hst
        have HOR : Hid (bits .or .u64 (m : Int) (IntKind.u64.wrap ((2 : Int) ^ k)) = ((m + 2 ^ k : Nat) : Int)) := or_bit' hml (by omega)
        clear hst hml hm q hj1 hj2 hrz hcell e
        go_wp2_with fail
        refine HH.mono ?_
        rintro e w1 ⟨rfl, rfl⟩
        clear HH
        go_wp2
        go_roundw
        case rel => exact ⟨k + 1, by omega, by go_num, by rw [HST.out]; exact congrArg (Value.int .u64) HOR.out, trivial⟩
        case measure => simp [intOf]; omega
      | false =>
        rw [q] at HH hst
        have HST : Hid (maskN (S.take (k + 1)) r = m) := hst
        clear hst hml hm q hj1 hj2 hrz hcell e
        go_wp2_with fail
        refine HH.mono ?_
        rintro e w1 ⟨rfl, rfl⟩
        clear HH
        go_wp2
        go_roundw
        case rel => exact ⟨k + 1, by omega, by go_num, by rw [HST.out], trivial⟩
        case measure => simp [intOf]; omega
    · have hlt' : ¬ ((k : Int) < (S.length : Int)) := by omega
      obtain rfl : k = S.length := by omega
      rw [List.take_length]
      go_wp2
      go_ret
      exact ⟨rfl, rfl⟩

/-- The document's alphabet at block g: its sets, the masks, the least numbers. -/
def RAlp (w : World) (g : Nat) (vs vm vl : Value) (M : List Nat) (L : List Int) : Prop :=
  w.heap[g]? = some (.cells [vs, vm, vl].toArray 41 (0, 0)) ∧ U64In w vm M ∧ IntsIn w vl L
/-- The place of a mask; -1: there is none. -/
def findR (M : List Nat) (m : Nat) : Int := if m ∈ M then ((M.idxOf m : Nat) : Int) else -1
theorem findR_in {M : List Nat} {k m : Nat} (hk : k < M.length) (hlt : ∀ i, (h : i < M.length) → i < k → M[i] ≠ m) (he : M[k] = m) : findR M m = (k : Int) := by
  have hm : m ∈ M := by rw [← he]; exact List.getElem_mem hk
  have hi := List.idxOf_lt_length_of_mem hm
  have e : M[M.idxOf m] = m := List.getElem_idxOf hi
  have h1 : M.idxOf m ≤ k := by
    apply Nat.le_of_not_lt
    intro q
    have := List.not_of_lt_findIdx (p := fun x => x == m) q
    rw [he] at this
    simp at this
  have h2 : ¬ M.idxOf m < k := fun q => hlt _ hi q e
  unfold findR
  rw [if_pos hm]
  omega
theorem findR_none {M : List Nat} {m : Nat} (hlt : ∀ i, (h : i < M.length) → M[i] ≠ m) : findR M m = -1 := by
  unfold findR
  rw [if_neg]
  intro q
  obtain ⟨i, hi, e⟩ := List.getElem_of_mem q
  exact hlt i hi e
set_option maxRecDepth 100000 in
set_option maxHeartbeats 4000000 in
theorem rfind_any (g : Nat) (vs vm vl : Value) (M : List Nat) (L : List Int) (m : Nat) (w : World) (hM : M.length ≤ 1000000) (h : RAlp w g vs vm vl M L) :
    Calls Try.prog 34 #[.pointer (some ⟨g, 0, none⟩), .int .u64 (m : Int)] w fun e w' => e = .returned (.int .i64 (findR M m)) ∧ w' = w := by
  obtain ⟨hg, ⟨a, cap, rfl, hc, hcell⟩, _⟩ := h
  have hc1 : w.cell? ⟨g, 1, none⟩ = some (.slice a M.length cap) := S3.cell_row hg rfl
  have HA : Hid (∀ i, (h : i < M.length) → ∃ g off, a = some ⟨g, off, none⟩ ∧ g < w.heap.size ∧ w.cell? ⟨g, off + i, none⟩ = some (.int .u64 (M[i] : Nat))) := hcell
  obtain ⟨fr, hfr⟩ : ∃ fr, fr = findR M m := ⟨_, rfl⟩
  rw [← hfr]
  have HFR : Hid (fr = findR M m) := hfr
  clear hcell hg hfr
  go_enter Try.func34, Try.ntmps34
  go_wp2
  go_loopw [5] (fun x wr => ∃ k : Nat, k ≤ M.length ∧ x = .int .i64 k ∧ (∀ i, (h : i < M.length) → i < k → M[i] ≠ m) ∧ wr = w) (fun x _ => M.length - (intOf x).toNat)
  case atStart => exact ⟨0, Nat.zero_le _, rfl, (fun i h q => by omega), rfl⟩
  case round =>
    obtain ⟨k, hk, rfl, hne, rfl⟩ := hrel
    have HNE : Hid (∀ i, (h : i < M.length) → i < k → M[i] ≠ m) := hne
    clear hne
    by_cases hlt : k < M.length
    · have hlt' : (k : Int) < (M.length : Int) := by omega
      obtain ⟨gx, ox, rfl, hgx, hck⟩ := HA.out k hlt
      obtain ⟨u, hu⟩ : ∃ u, u = M[k] := ⟨_, rfl⟩
      rw [← hu] at hck
      have HU : Hid (u = M[k]) := hu
      clear hu
      by_cases q : u = m
      · have q' : ((u : Int) == (m : Int)) = true := by simp [q]
        have e0 : fr = (k : Int) := by rw [HFR.out]; exact findR_in hlt HNE.out (by rw [← HU.out]; exact q)
        subst e0
        clear q
        go_wp2
        go_ret
        exact ⟨rfl, rfl⟩
      · have q' : ((u : Int) == (m : Int)) = false := by simp; omega
        have HN2 : Hid (∀ i, (h : i < M.length) → i < k + 1 → M[i] ≠ m) := fun i h z => by
          by_cases e : i = k
          · subst e; rw [← HU.out]; exact q
          · exact HNE.out i h (by omega)
        clear q
        go_wp2
        go_roundw
        case rel => exact ⟨k + 1, by omega, by go_num, HN2.out, trivial⟩
        case measure => simp [intOf]; omega
    · have hlt' : ¬ ((k : Int) < (M.length : Int)) := by omega
      have e0 : fr = -1 := by rw [HFR.out]; exact findR_none (fun i h => HNE.out i h (by omega))
      subst e0
      go_wp2
      go_ret
      exact ⟨rfl, rfl⟩
end Go.Proofs.Ytmknifnhcgdkaaa
