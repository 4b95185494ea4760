/-
  Functions that are one composite: their operations run as a program does, and the kernel checks it. The tables of the program and of the document, as lists. The functions of the program's tables: each is one composite. ucd.entries, scriptEntries, shipped: the entries of the four tables. ucd.scriptEntries: the table of scripts, a variable. Plain mathematics of the tables: the program's and the document's tell the same of every number; they are small enough for a trie. ucd.shipped: the entries of each table; data in memory. ucd.New: the data of the shipped tables. ucd.value, Cluster, Word, Script, Picto: what data tells of a number. scansionlaw04.awake: true; what the shipped data tells of every number. What the document's rows say together.
-/
import Derived.Test.YtpknmpgbaccffaaDoorM4
import Derived.Test.YtpknmpgbaccffaaDoorM3
namespace Go.Proofs.YtpknmpgbaccffaaDoor
open Go.RowKit
set_option linter.unusedVariables false

/-- What functions without arguments answer, and the world behind. -/
abbrev Tab := FuncId → Option (World → Value × World)
def TabOk (P : Program) (T : Tab) : Prop := ∀ f g, T f = some g → ∀ w, Calls P f #[] w fun e w' => e = .returned (g w).1 ∧ w' = (g w).2
/-- Operations, one behind the other: each tells a value, or calls a function of the table. -/
def qrun (P : Program) (T : Tab) : List Oper → Act → World → Option (Act × World)
  | [], a, w => some (a, w)
  | o :: rest, a, w =>
    match o.guard with
    | none =>
      match (execOp a.eval o).run P w with
      | .ok (.value v) w' => qrun P T rest (a.put o.dst v) w'
      | .ok (.enter f args) w' =>
        if args.size = 0 then
          match T f with
          | some g => qrun P T rest (a.put o.dst (g w').1) (g w').2
          | none => none
        else none
      | _ => none
    | some _ => none
theorem qrun_sound {P : Program} {T : Tab} (hT : TabOk P T) {ops : Array Oper} {Q : Exit → Act → World → Prop} : ∀ {l : List Oper} {a : Act} {w : World} {a' : Act} {w' : World}, qrun P T l a w = some (a', w') → Q .normal a' w' → wpList P ops Q l a w
  | [], a, w, a', w', h, hQ => by
    obtain ⟨rfl, rfl⟩ : a = a' ∧ w = w' := by simpa [qrun] using h
    exact hQ
  | o :: rest, a, w, a', w', h, hQ => by
    unfold qrun at h
    cases hg : o.guard with
    | some x => rw [hg] at h; cases h
    | none =>
      rw [hg] at h
      refine wpList_plain hg (fun K hK => ?_)
      unfold Oper.wp
      cases hr : (execOp a.eval o).run P w with
      | ok n w1 =>
        rw [hr] at h
        cases n with
        | value v => exact hK _ _ (qrun_sound hT h hQ)
        | enter f args =>
          simp only at h
          by_cases hz : args.size = 0
          · rw [if_pos hz] at h
            obtain rfl : args = #[] := Array.eq_empty_of_size_eq_zero hz
            cases hf : T f with
            | none => rw [hf] at h; cases h
            | some g =>
              rw [hf] at h
              show Calls P f #[] w1 _
              refine (hT f g hf w1).mono ?_
              rintro e w2 ⟨rfl, rfl⟩
              exact hK _ _ (qrun_sound hT h hQ)
          · rw [if_neg hz] at h; cases h
        | _ => cases h
      | _ => rw [hr] at h; cases h
/-- A function whose body is two regions and a return. -/
theorem calls_table {P : Program} {T : Tab} (hT : TabOk P T) {f : FuncId} {fn : Func} {id0 id : Nat} {ops0 ops : Array Oper} {t : Tmp} {w w' : World} {v : Value} (hf : P.funcs[f]? = some fn) (hb : fn.body = some ((Code.region id0 ops0 false).seq ((Code.region id ops false).seq Code.ret))) (hr : fn.results = #[.tmp t])
    (h : ((qrun P T ops0.toList { tmps := #[] ++ Array.replicate (fn.ntmps - 0) undef, defers := [] } w).bind fun y => qrun P T ops.toList y.1 y.2).map (fun x => (x.1.tmps.getD t undef, x.1.defers.isEmpty, x.2)) = some (v, true, w')) :
    Calls P f #[] w fun e w'' => e = .returned v ∧ w'' = w' := by
  refine calls_of_wp hf hb (wp_seq (wp_region_list ?_))
  cases hq : qrun P T ops0.toList { tmps := #[] ++ Array.replicate (fn.ntmps - 0) undef, defers := [] } w with
  | none => rw [hq] at h; cases h
  | some y =>
    obtain ⟨a0, w0⟩ := y
    rw [hq] at h
    refine qrun_sound hT hq ?_
    refine wp_seq (wp_region_list ?_)
    cases hq2 : qrun P T ops.toList a0 w0 with
    | none => simp [hq2] at h
    | some x =>
      obtain ⟨a1, w1⟩ := x
      obtain ⟨h1, h2, h3⟩ : a1.tmps.getD t undef = v ∧ a1.defers.isEmpty = true ∧ w1 = w' := by simpa [hq2] using h
      refine qrun_sound hT hq2 ?_
      refine wp_ret (bodyPost_ret (results_tmp hr _ _ _) (List.isEmpty_iff.1 h2) ?_)
      exact ⟨by rw [h1], h3⟩
end Go.Proofs.YtpknmpgbaccffaaDoor

namespace Go.Proofs.YtpknmpgbaccffaaDoor
set_option linter.unusedVariables false

abbrev Sp := Int × Int
def picL : List Sp := [(169, 169), (174, 174), (8252, 8252), (8265, 8265), (8482, 8482), (8505, 8505), (8596, 8601), (8617, 8618), (8986, 8987), (9000, 9000), (9167, 9167), (9193, 9203), (9410, 9410), (9642, 9643), (9654, 9654), (9664, 9664), (9723, 9726), (9728, 9733), (9735, 9746), (9748, 9861), (9872, 9989), (9992, 10002), (10004, 10004), (10006, 10006), (10013, 10013), (10017, 10017), (10024, 10024), (10035, 10036), (10052, 10052), (10055, 10055), (10060, 10060), (10062, 10062), (10067, 10069), (10071, 10071), (10083, 10087), (10133, 10135), (10145, 10145), (10160, 10160), (10175, 10175), (10548, 10549), (11013, 11015), (11035, 11036), (11088, 11088), (11093, 11093), (12336, 12336), (12349, 12349), (12951, 12951), (12953, 12953), (126976, 127231), (127245, 127247), (127279, 127279), (127340, 127345), (127358, 127359), (127374, 127374), (127377, 127386), (127489, 127503), (127514, 127514), (127535, 127535), (127538, 127546), (127561, 127994), (128000, 128317), (128326, 128591), (128640, 128767), (129292, 129338), (129340, 129349), (129351, 129791)]
def marksL : List Sp := [(768, 879), (1155, 1161), (1425, 1469), (1552, 1562), (1611, 1631), (2307, 2307), (2362, 2364), (2366, 2383), (3633, 3633), (3635, 3642), (3655, 3662), (3761, 3761), (3763, 3772), (3784, 3790), (6068, 6099), (6109, 6109), (7616, 7679), (8204, 8204), (8400, 8432), (12330, 12335), (12441, 12442), (65024, 65039), (65056, 65071), (127995, 127999), (917536, 917631), (917760, 917999)]
def lettersL : List Sp := [(65, 90), (97, 122), (170, 170), (181, 181), (186, 186), (192, 214), (216, 246), (248, 727), (880, 883), (886, 887), (891, 893), (895, 895), (902, 902), (904, 1023), (1024, 1153), (1162, 1327), (1329, 1366), (1377, 1415), (1568, 1610), (1649, 1747), (2308, 2361), (4256, 4351), (4352, 4680), (7680, 8124), (44032, 55203)]
def clLL : List (List Sp) := [[(13, 13)],
  [(10, 10)],
  [(0, 9), (11, 12), (14, 31), (127, 159), (173, 173), (8203, 8203), (8206, 8207), (8232, 8238), (8288, 8303), (65279, 65279), (917505, 917505)],
  [(768, 879), (1155, 1161), (1425, 1469), (1552, 1562), (1611, 1631), (2362, 2362), (2364, 2364), (2369, 2376), (2381, 2381), (3633, 3633), (3636, 3642), (3655, 3662), (3761, 3761), (3764, 3772), (3784, 3790), (6068, 6069), (6071, 6077), (6086, 6086), (6089, 6099), (6109, 6109), (7616, 7679), (8204, 8204), (8400, 8432), (12330, 12335), (12441, 12442), (65024, 65039), (65056, 65071), (127995, 127999), (917536, 917631), (917760, 917999)],
  [(8205, 8205)],
  [(127462, 127487)],
  [(1536, 1541), (1757, 1757), (1807, 1807), (69821, 69821)],
  [(2307, 2307), (2363, 2363), (2366, 2368), (2377, 2380), (2382, 2383), (3635, 3635), (3763, 3763), (6070, 6070), (6078, 6085), (6087, 6088)],
  [(4352, 4447)],
  [(4448, 4519)],
  [(4520, 4607)]]
def wdLL : List (List Sp) := [[(13, 13)],
  [(10, 10)],
  [(11, 12), (133, 133), (8232, 8233)],
  marksL,
  [(8205, 8205)],
  [(173, 173), (1536, 1541), (1757, 1757), (1807, 1807), (8206, 8207), (8234, 8238), (8288, 8292), (8294, 8303), (65279, 65279), (917505, 917505)],
  [(127462, 127487)],
  [(12337, 12341), (12443, 12444), (12448, 12538), (12540, 12543), (12784, 12799), (65382, 65437)],
  [(1488, 1514), (1519, 1522), (64285, 64285), (64287, 64296)],
  lettersL,
  [(39, 39)],
  [(34, 34)],
  [(46, 46), (8216, 8217), (8228, 8228), (65106, 65106), (65287, 65287), (65294, 65294)],
  [(58, 58), (183, 183), (903, 903), (1375, 1375), (1524, 1524), (8231, 8231), (65043, 65043), (65109, 65109), (65306, 65306)],
  [(44, 44), (59, 59), (894, 894), (1417, 1417), (1548, 1549), (1644, 1644), (2040, 2040), (8260, 8260), (65040, 65040), (65044, 65044), (65292, 65292), (65307, 65307)],
  [(48, 57), (1632, 1641), (1643, 1643), (1776, 1785), (2406, 2415), (3664, 3673), (3792, 3801), (6112, 6121), (65296, 65305)],
  [(95, 95), (8239, 8239), (8255, 8256), (8276, 8276), (65075, 65076), (65101, 65103), (65343, 65343)],
  [(32, 32), (5760, 5760), (8192, 8198), (8200, 8202), (8287, 8287), (12288, 12288)]]
def scP : List Pp := [⟨11904, 12245, 1⟩, ⟨12293, 12295, 1⟩, ⟨12321, 12329, 1⟩, ⟨12344, 12347, 1⟩, ⟨12353, 12438, 1⟩, ⟨12445, 12447, 1⟩, ⟨12449, 12538, 1⟩, ⟨12541, 12543, 1⟩, ⟨12784, 12799, 1⟩, ⟨13312, 19903, 1⟩, ⟨19968, 40959, 1⟩, ⟨63744, 64217, 1⟩, ⟨65382, 65391, 1⟩, ⟨65393, 65437, 1⟩, ⟨131072, 195101, 1⟩, ⟨3585, 3642, 2⟩, ⟨3648, 3662, 2⟩, ⟨3713, 3773, 3⟩, ⟨3776, 3790, 3⟩, ⟨3804, 3807, 3⟩, ⟨6016, 6067, 4⟩, ⟨6070, 6099, 4⟩, ⟨6103, 6103, 4⟩, ⟨6108, 6109, 4⟩]
def clR : List Pp := [⟨0, 9, 3⟩, ⟨10, 10, 2⟩, ⟨11, 12, 3⟩, ⟨13, 13, 1⟩, ⟨14, 31, 3⟩, ⟨127, 159, 3⟩, ⟨173, 173, 3⟩, ⟨768, 879, 4⟩, ⟨1155, 1161, 4⟩, ⟨1425, 1469, 4⟩, ⟨1536, 1541, 7⟩, ⟨1552, 1562, 4⟩, ⟨1611, 1631, 4⟩, ⟨1757, 1757, 7⟩, ⟨1807, 1807, 7⟩, ⟨2307, 2307, 8⟩, ⟨2362, 2362, 4⟩, ⟨2363, 2363, 8⟩, ⟨2364, 2364, 4⟩, ⟨2366, 2368, 8⟩, ⟨2369, 2376, 4⟩, ⟨2377, 2380, 8⟩, ⟨2381, 2381, 4⟩, ⟨2382, 2383, 8⟩, ⟨3633, 3633, 4⟩, ⟨3635, 3635, 8⟩, ⟨3636, 3642, 4⟩, ⟨3655, 3662, 4⟩, ⟨3761, 3761, 4⟩, ⟨3763, 3763, 8⟩, ⟨3764, 3772, 4⟩, ⟨3784, 3790, 4⟩, ⟨4352, 4447, 9⟩, ⟨4448, 4519, 10⟩, ⟨4520, 4607, 11⟩, ⟨6068, 6069, 4⟩, ⟨6070, 6070, 8⟩, ⟨6071, 6077, 4⟩, ⟨6078, 6085, 8⟩, ⟨6086, 6086, 4⟩, ⟨6087, 6088, 8⟩, ⟨6089, 6099, 4⟩, ⟨6109, 6109, 4⟩, ⟨7616, 7679, 4⟩, ⟨8203, 8203, 3⟩, ⟨8204, 8204, 4⟩, ⟨8205, 8205, 5⟩, ⟨8206, 8207, 3⟩, ⟨8232, 8238, 3⟩, ⟨8288, 8303, 3⟩, ⟨8400, 8432, 4⟩, ⟨12330, 12335, 4⟩, ⟨12441, 12442, 4⟩, ⟨65024, 65039, 4⟩, ⟨65056, 65071, 4⟩, ⟨65279, 65279, 3⟩, ⟨69821, 69821, 7⟩, ⟨127462, 127487, 6⟩, ⟨127995, 127999, 4⟩, ⟨917505, 917505, 3⟩, ⟨917536, 917631, 4⟩, ⟨917760, 917999, 4⟩]
def wdR : List Pp := [⟨10, 10, 2⟩, ⟨11, 12, 3⟩, ⟨13, 13, 1⟩, ⟨32, 32, 18⟩, ⟨34, 34, 12⟩, ⟨39, 39, 11⟩, ⟨44, 44, 15⟩, ⟨46, 46, 13⟩, ⟨48, 57, 16⟩, ⟨58, 58, 14⟩, ⟨59, 59, 15⟩, ⟨65, 90, 10⟩, ⟨95, 95, 17⟩, ⟨97, 122, 10⟩, ⟨133, 133, 3⟩, ⟨170, 170, 10⟩, ⟨173, 173, 6⟩, ⟨181, 181, 10⟩, ⟨183, 183, 14⟩, ⟨186, 186, 10⟩, ⟨192, 214, 10⟩, ⟨216, 246, 10⟩, ⟨248, 727, 10⟩, ⟨768, 879, 4⟩, ⟨880, 883, 10⟩, ⟨886, 887, 10⟩, ⟨891, 893, 10⟩, ⟨894, 894, 15⟩, ⟨895, 895, 10⟩, ⟨902, 902, 10⟩, ⟨903, 903, 14⟩, ⟨904, 1023, 10⟩, ⟨1024, 1153, 10⟩, ⟨1155, 1161, 4⟩, ⟨1162, 1327, 10⟩, ⟨1329, 1366, 10⟩, ⟨1375, 1375, 14⟩, ⟨1377, 1415, 10⟩, ⟨1417, 1417, 15⟩, ⟨1425, 1469, 4⟩, ⟨1488, 1514, 9⟩, ⟨1519, 1522, 9⟩, ⟨1524, 1524, 14⟩, ⟨1536, 1541, 6⟩, ⟨1548, 1549, 15⟩, ⟨1552, 1562, 4⟩, ⟨1568, 1610, 10⟩, ⟨1611, 1631, 4⟩, ⟨1632, 1641, 16⟩, ⟨1643, 1643, 16⟩, ⟨1644, 1644, 15⟩, ⟨1649, 1747, 10⟩, ⟨1757, 1757, 6⟩, ⟨1776, 1785, 16⟩, ⟨1807, 1807, 6⟩, ⟨2040, 2040, 15⟩, ⟨2307, 2307, 4⟩, ⟨2308, 2361, 10⟩, ⟨2362, 2364, 4⟩, ⟨2366, 2383, 4⟩, ⟨2406, 2415, 16⟩, ⟨3633, 3633, 4⟩, ⟨3635, 3642, 4⟩, ⟨3655, 3662, 4⟩, ⟨3664, 3673, 16⟩, ⟨3761, 3761, 4⟩, ⟨3763, 3772, 4⟩, ⟨3784, 3790, 4⟩, ⟨3792, 3801, 16⟩, ⟨4256, 4351, 10⟩, ⟨4352, 4680, 10⟩, ⟨5760, 5760, 18⟩, ⟨6068, 6099, 4⟩, ⟨6109, 6109, 4⟩, ⟨6112, 6121, 16⟩, ⟨7616, 7679, 4⟩, ⟨7680, 8124, 10⟩, ⟨8192, 8198, 18⟩, ⟨8200, 8202, 18⟩, ⟨8204, 8204, 4⟩, ⟨8205, 8205, 5⟩, ⟨8206, 8207, 6⟩, ⟨8216, 8217, 13⟩, ⟨8228, 8228, 13⟩, ⟨8231, 8231, 14⟩, ⟨8232, 8233, 3⟩, ⟨8234, 8238, 6⟩, ⟨8239, 8239, 17⟩, ⟨8255, 8256, 17⟩, ⟨8260, 8260, 15⟩, ⟨8276, 8276, 17⟩, ⟨8287, 8287, 18⟩, ⟨8288, 8292, 6⟩, ⟨8294, 8303, 6⟩, ⟨8400, 8432, 4⟩, ⟨12288, 12288, 18⟩, ⟨12330, 12335, 4⟩, ⟨12337, 12341, 8⟩, ⟨12441, 12442, 4⟩, ⟨12443, 12444, 8⟩, ⟨12448, 12538, 8⟩, ⟨12540, 12543, 8⟩, ⟨12784, 12799, 8⟩, ⟨44032, 55203, 10⟩, ⟨64285, 64285, 9⟩, ⟨64287, 64296, 9⟩, ⟨65024, 65039, 4⟩, ⟨65040, 65040, 15⟩, ⟨65043, 65043, 14⟩, ⟨65044, 65044, 15⟩, ⟨65056, 65071, 4⟩, ⟨65075, 65076, 17⟩, ⟨65101, 65103, 17⟩, ⟨65106, 65106, 13⟩, ⟨65109, 65109, 14⟩, ⟨65279, 65279, 6⟩, ⟨65287, 65287, 13⟩, ⟨65292, 65292, 15⟩, ⟨65294, 65294, 13⟩, ⟨65296, 65305, 16⟩, ⟨65306, 65306, 14⟩, ⟨65307, 65307, 15⟩, ⟨65343, 65343, 17⟩, ⟨65382, 65437, 8⟩, ⟨127462, 127487, 7⟩, ⟨127995, 127999, 4⟩, ⟨917505, 917505, 6⟩, ⟨917536, 917631, 4⟩, ⟨917760, 917999, 4⟩]
def scR : List Pp := [⟨3585, 3642, 2⟩, ⟨3648, 3662, 2⟩, ⟨3713, 3773, 3⟩, ⟨3776, 3790, 3⟩, ⟨3804, 3807, 3⟩, ⟨6016, 6067, 4⟩, ⟨6070, 6099, 4⟩, ⟨6103, 6103, 4⟩, ⟨6108, 6109, 4⟩, ⟨11904, 12245, 1⟩, ⟨12293, 12295, 1⟩, ⟨12321, 12329, 1⟩, ⟨12344, 12347, 1⟩, ⟨12353, 12438, 1⟩, ⟨12445, 12447, 1⟩, ⟨12449, 12538, 1⟩, ⟨12541, 12543, 1⟩, ⟨12784, 12799, 1⟩, ⟨13312, 19903, 1⟩, ⟨19968, 40959, 1⟩, ⟨63744, 64217, 1⟩, ⟨65382, 65391, 1⟩, ⟨65393, 65437, 1⟩, ⟨131072, 195101, 1⟩]
def piR : List Pp := [⟨169, 169, 1⟩, ⟨174, 174, 1⟩, ⟨8252, 8252, 1⟩, ⟨8265, 8265, 1⟩, ⟨8482, 8482, 1⟩, ⟨8505, 8505, 1⟩, ⟨8596, 8601, 1⟩, ⟨8617, 8618, 1⟩, ⟨8986, 8987, 1⟩, ⟨9000, 9000, 1⟩, ⟨9167, 9167, 1⟩, ⟨9193, 9203, 1⟩, ⟨9410, 9410, 1⟩, ⟨9642, 9643, 1⟩, ⟨9654, 9654, 1⟩, ⟨9664, 9664, 1⟩, ⟨9723, 9726, 1⟩, ⟨9728, 9733, 1⟩, ⟨9735, 9746, 1⟩, ⟨9748, 9861, 1⟩, ⟨9872, 9989, 1⟩, ⟨9992, 10002, 1⟩, ⟨10004, 10004, 1⟩, ⟨10006, 10006, 1⟩, ⟨10013, 10013, 1⟩, ⟨10017, 10017, 1⟩, ⟨10024, 10024, 1⟩, ⟨10035, 10036, 1⟩, ⟨10052, 10052, 1⟩, ⟨10055, 10055, 1⟩, ⟨10060, 10060, 1⟩, ⟨10062, 10062, 1⟩, ⟨10067, 10069, 1⟩, ⟨10071, 10071, 1⟩, ⟨10083, 10087, 1⟩, ⟨10133, 10135, 1⟩, ⟨10145, 10145, 1⟩, ⟨10160, 10160, 1⟩, ⟨10175, 10175, 1⟩, ⟨10548, 10549, 1⟩, ⟨11013, 11015, 1⟩, ⟨11035, 11036, 1⟩, ⟨11088, 11088, 1⟩, ⟨11093, 11093, 1⟩, ⟨12336, 12336, 1⟩, ⟨12349, 12349, 1⟩, ⟨12951, 12951, 1⟩, ⟨12953, 12953, 1⟩, ⟨126976, 127231, 1⟩, ⟨127245, 127247, 1⟩, ⟨127279, 127279, 1⟩, ⟨127340, 127345, 1⟩, ⟨127358, 127359, 1⟩, ⟨127374, 127374, 1⟩, ⟨127377, 127386, 1⟩, ⟨127489, 127503, 1⟩, ⟨127514, 127514, 1⟩, ⟨127535, 127535, 1⟩, ⟨127538, 127546, 1⟩, ⟨127561, 127994, 1⟩, ⟨128000, 128317, 1⟩, ⟨128326, 128591, 1⟩, ⟨128640, 128767, 1⟩, ⟨129292, 129338, 1⟩, ⟨129340, 129349, 1⟩, ⟨129351, 129791, 1⟩]
end Go.Proofs.YtpknmpgbaccffaaDoor

namespace Go.Proofs.YtpknmpgbaccffaaDoor
open Go.RowKit
set_option linter.unusedVariables false

def cellsS (l : List Sp) : List Value := l.flatMap fun s => [.int .i64 s.1, .int .i64 s.2]
/-- A slice of ranges, made in a world. -/
def spanV (w : World) (l : List Sp) : Value := .slice (some ⟨w.heap.size, 0, none⟩) l.length l.length
def spanW (w : World) (l : List Sp) : World := w.alloc (.cells (cellsS l).toArray 99)
def spanG (l : List Sp) : World → Value × World := fun w => (spanV w l, spanW w l)
/-- Slices of ranges, made one behind the other; the row of their values. -/
def spansW : World → List (List Sp) → World
  | w, [] => w
  | w, l :: LL => spansW (spanW w l) LL
def spansV : World → List (List Sp) → List Value
  | _, [] => []
  | w, l :: LL => spanV w l :: spansV (spanW w l) LL
def listsV (w : World) (LL : List (List Sp)) : Value := .slice (some ⟨(spansW w LL).heap.size, 0, none⟩) (LL.length + 1) (LL.length + 1)
def listsW (w : World) (LL : List (List Sp)) : World := (spansW w LL).alloc (.cells (Value.slice none 0 0 :: spansV w LL).toArray 72)
def noTab : Tab := fun _ => none
theorem noTab_ok (P : Program) : TabOk P noTab := fun f g h => by cases h

set_option maxRecDepth 1000000 in
theorem pictures_any (w : World) : Calls Tryd.prog 44 #[] w fun e w' => e = .returned (spanV w picL) ∧ w' = spanW w picL :=
  calls_table (noTab_ok _) Tryd.func44 rfl rfl (by kernel_rfl)
set_option maxRecDepth 1000000 in
theorem marks_any (w : World) : Calls Tryd.prog 55 #[] w fun e w' => e = .returned (spanV w marksL) ∧ w' = spanW w marksL :=
  calls_table (noTab_ok _) Tryd.func55 rfl rfl (by kernel_rfl)
set_option maxRecDepth 1000000 in
theorem letters_any (w : World) : Calls Tryd.prog 56 #[] w fun e w' => e = .returned (spanV w lettersL) ∧ w' = spanW w lettersL :=
  calls_table (noTab_ok _) Tryd.func56 rfl rfl (by kernel_rfl)
set_option maxRecDepth 1000000 in
theorem clusters_any (w : World) : Calls Tryd.prog 41 #[] w fun e w' => e = .returned (listsV w clLL) ∧ w' = listsW w clLL :=
  calls_table (noTab_ok _) Tryd.func41 rfl rfl (by kernel_rfl)
def wdTab : Tab := fun f => if f = 55 then some (spanG marksL) else if f = 56 then some (spanG lettersL) else none
theorem wdTab_ok : TabOk Tryd.prog wdTab := fun f g h w => by
  unfold wdTab at h
  split at h
  · rename_i e; cases h; subst e; exact marks_any w
  · split at h
    · rename_i e; cases h; subst e; exact letters_any w
    · cases h
set_option maxRecDepth 1000000 in
theorem words_any (w : World) : Calls Tryd.prog 42 #[] w fun e w' => e = .returned (listsV w wdLL) ∧ w' = listsW w wdLL :=
  calls_table wdTab_ok Tryd.func42 rfl rfl (by kernel_rfl)
end Go.Proofs.YtpknmpgbaccffaaDoor

namespace Go.Proofs.YtpknmpgbaccffaaDoor
open Go.RowKit
set_option linter.unusedVariables false

/-- The slice value v holds the ranges l. -/
def SpansIn (w : World) (v : Value) (l : List Sp) : Prop :=
  ∃ a cap, v = .slice a l.length cap ∧ ∀ i, (h : i < l.length) → ∃ g off, a = some ⟨g, off, none⟩ ∧ g < w.heap.size ∧ w.cell? ⟨g, off + i * 2, none⟩ = some (.int .i64 l[i].1) ∧ w.cell? ⟨g, off + i * 2 + 1, none⟩ = some (.int .i64 l[i].2)
def ListsIn (w : World) (v : Value) (LL : List (List Sp)) : Prop :=
  ∃ a cap, v = .slice a LL.length cap ∧ ∀ i, (h : i < LL.length) → ∃ g off vi, a = some ⟨g, off, none⟩ ∧ g < w.heap.size ∧ w.cell? ⟨g, off + i, none⟩ = some vi ∧ SpansIn w vi LL[i]
theorem SpansIn.below {w w' : World} {v : Value} {l : List Sp} (h : SpansIn w v l) (hb : Below w.heap.size w w') : SpansIn w' v l := by
  obtain ⟨a, cap, rfl, hi⟩ := h
  refine ⟨a, cap, rfl, fun i hlt => ?_⟩
  obtain ⟨g, off, rfl, hg, h0, h1⟩ := hi i hlt
  exact ⟨g, off, rfl, by have := hb.size; omega, (hb.cell (p := ⟨g, _, none⟩) hg).trans h0, (hb.cell (p := ⟨g, _, none⟩) hg).trans h1⟩
theorem ListsIn.below {w w' : World} {v : Value} {LL : List (List Sp)} (h : ListsIn w v LL) (hb : Below w.heap.size w w') : ListsIn w' v LL := by
  obtain ⟨a, cap, rfl, hi⟩ := h
  refine ⟨a, cap, rfl, fun i hlt => ?_⟩
  obtain ⟨g, off, vi, rfl, hg, h0, h1⟩ := hi i hlt
  exact ⟨g, off, vi, rfl, by have := hb.size; omega, (hb.cell (p := ⟨g, _, none⟩) hg).trans h0, h1.below hb⟩
theorem cellsS_at : ∀ (l : List Sp) (i : Nat) (h : i < l.length), (cellsS l)[i * 2]? = some (.int .i64 l[i].1) ∧ (cellsS l)[i * 2 + 1]? = some (.int .i64 l[i].2)
  | u :: us, 0, h => ⟨rfl, rfl⟩
  | u :: us, i + 1, h => by
    have e : cellsS (u :: us) = .int .i64 u.1 :: .int .i64 u.2 :: cellsS us := rfl
    have := cellsS_at us i (by simpa using h)
    have e1 : (i + 1) * 2 = i * 2 + 1 + 1 := by omega
    rw [e, e1]
    simp only [List.getElem?_cons_succ, List.getElem_cons_succ]
    exact this
theorem spanW_below (w : World) (l : List Sp) : Below w.heap.size w (spanW w l) := (Below.refl _ _).alloc (Nat.le_refl _) _
theorem spanW_size (w : World) (l : List Sp) : (spanW w l).heap.size = w.heap.size + 1 := by simp [spanW]
theorem span_in (w : World) (l : List Sp) : SpansIn (spanW w l) (spanV w l) l := by
  refine ⟨_, _, rfl, fun i hi => ⟨w.heap.size, 0, rfl, by rw [spanW_size]; omega, ?_, ?_⟩⟩
  · rw [Nat.zero_add]; exact cell_row (heap_new' w _) (cellsS_at l i hi).1
  · rw [Nat.zero_add]; exact cell_row (heap_new' w _) (cellsS_at l i hi).2
theorem spansW_below : ∀ (LL : List (List Sp)) (w : World), Below w.heap.size w (spansW w LL)
  | [], w => Below.refl _ _
  | l :: LL, w => (spanW_below w l).trans ((spansW_below LL (spanW w l)).mono (by rw [spanW_size]; omega))
theorem spansV_in : ∀ (LL : List (List Sp)) (w w' : World), Below (spansW w LL).heap.size (spansW w LL) w' → ∀ j, (h : j < LL.length) → ∃ vj, (spansV w LL)[j]? = some vj ∧ SpansIn w' vj LL[j]
  | l :: LL, w, w', hb, 0, h => by
    refine ⟨spanV w l, rfl, ?_⟩
    have h1 := spansW_below LL (spanW w l)
    exact (span_in w l).below (h1.trans (hb.mono h1.size))
  | l :: LL, w, w', hb, j + 1, h => spansV_in LL (spanW w l) w' hb j (by simpa using h)
theorem listsW_below (w : World) (LL : List (List Sp)) : Below w.heap.size w (listsW w LL) := (spansW_below LL w).alloc (spansW_below LL w).size _
theorem lists_in (w : World) (LL : List (List Sp)) : ListsIn (listsW w LL) (listsV w LL) ([] :: LL) := by
  refine ⟨_, _, rfl, fun i hi => ?_⟩
  have hsz : (listsW w LL).heap.size = (spansW w LL).heap.size + 1 := by simp [listsW]
  cases i with
  | zero => exact ⟨_, 0, .slice none 0 0, rfl, by rw [hsz]; omega, cell_row (heap_new' _ _) rfl, none, 0, rfl, fun i hi => by simp at hi⟩
  | succ i =>
    obtain ⟨vj, h1, h2⟩ := spansV_in LL w (listsW w LL) ((Below.refl _ _).alloc (Nat.le_refl _) _) i (by simpa using hi)
    refine ⟨_, 0, vj, rfl, by rw [hsz]; omega, cell_row (heap_new' _ _) ?_, by simpa using h2⟩
    rw [Nat.zero_add]
    exact h1
/-- The entries of lists: each with its place as its value. -/
def spP (k : Nat) (s : Sp) : Pp := ⟨s.1, s.2, (k : Int)⟩
def entsF : Nat → List (List Sp) → List Pp
  | _, [] => []
  | k, l :: LL => l.map (spP k) ++ entsF (k + 1) LL
theorem ents_step : ∀ (LL : List (List Sp)) (k i : Nat) (h : i < LL.length), entsF k (LL.take (i + 1)) = entsF k (LL.take i) ++ (LL[i]).map (spP (k + i))
  | l :: LL, k, 0, h => by simp [entsF]
  | l :: LL, k, i + 1, h => by
    have := ents_step LL (k + 1) i (by simpa using h)
    simp only [List.take_succ_cons, entsF, List.getElem_cons_succ]
    have e : k + 1 + i = k + (i + 1) := by omega
    rw [this, List.append_assoc, e]
theorem ents_len : ∀ (LL : List (List Sp)) (k i : Nat), (entsF k (LL.take i)).length ≤ (entsF k LL).length
  | [], k, i => by simp [entsF]
  | l :: LL, k, 0 => by simp [entsF]
  | l :: LL, k, i + 1 => by
    have := ents_len LL (k + 1) i
    simp only [List.take_succ_cons, entsF, List.length_append]
    omega

theorem wrap_next {j : Nat} (h : j < 4611686018427387904) : wrap64 ((j : Int) + 1) = ((j + 1 : Nat) : Int) := by
  rw [← IntWalk.i64_left]
  exact (IntWalk.i64_in _ (by omega)).trans (by omega)
theorem meas_wrap {M j : Nat} (hw : wrap64 ((j : Int) + 1) = ((j + 1 : Nat) : Int)) (h : j < M) : M - (intOf (.int .i64 (wrap64 ((j : Int) + 1)))).toNat < M - (intOf (.int .i64 (j : Int))).toNat := by
  rw [hw]
  simp only [intOf, Int.toNat_natCast]
  omega

set_option maxRecDepth 100000 in
set_option maxHeartbeats 8000000 in
theorem entries_any (LL : List (List Sp)) (v : Value) (w : World) (hv : ListsIn w v LL) (hl : LL.length ≤ 255) (hn : (entsF 0 LL).length ≤ 4096) :
    Calls Tryd.prog 40 #[v] w fun e w' => ∃ v', e = .returned v' ∧ w'.ownsRow w.heap.size 51 3 v' (entsF 0 LL).length (cellsPs (entsF 0 LL)) ∧ Below w.heap.size w w' := by
  obtain ⟨iP, hiP, hzP0, hzP1, hzP2⟩ := info_parts Tryd.infoProp
  obtain ⟨a, cap, rfl, hcl⟩ := hv
  have HCL : Hid (∀ i, (h : i < LL.length) → ∃ g off vi, a = some ⟨g, off, none⟩ ∧ g < w.heap.size ∧ w.cell? ⟨g, off + i, none⟩ = some vi ∧ SpansIn w vi LL[i]) := hcl
  clear hcl
  go_enter Tryd.func40, Tryd.ntmps40
  go_wp2_with fail
  go_loopw [3, 10] (fun y x wr => ∃ k : Nat, k ≤ LL.length ∧ x = .int .i64 k ∧ wr.ownsRow w.heap.size 51 3 y (entsF 0 (LL.take k)).length (cellsPs (entsF 0 (LL.take k))) ∧ Below w.heap.size w wr) (fun _ x _ => LL.length - (intOf x).toNat)
  case atStart => exact ⟨0, Nat.zero_le _, rfl, World.ownsRow_nil _ _ _ _, Below.refl _ _⟩
  case round =>
    obtain ⟨k, hk, rfl, ho, hB⟩ := hrel
    have hbs := hB.size
    obtain ⟨wk, hwk⟩ : ∃ wk, wk = wr := ⟨_, rfl⟩
    obtain ⟨y, hy⟩ : ∃ y, y = u3 := ⟨_, rfl⟩
    by_cases hlt : k < LL.length
    · have hlt' : (k : Int) < (LL.length : Int) := by omega
      obtain ⟨g, off, vi, rfl, hg, hc, hsp⟩ := HCL.out k hlt
      have hc' : wr.cell? ⟨g, off + k, none⟩ = some vi := (hB.cell (p := ⟨g, _, none⟩) hg).trans hc
      obtain ⟨l, hl2⟩ : ∃ l, l = LL[k] := ⟨_, rfl⟩
      rw [← hl2] at hsp
      obtain ⟨ai, ci, rfl, hspc⟩ := hsp
      have HSP : Hid (∀ i, (h : i < l.length) → ∃ g off, ai = some ⟨g, off, none⟩ ∧ g < w.heap.size ∧ w.cell? ⟨g, off + i * 2, none⟩ = some (.int .i64 l[i].1) ∧ w.cell? ⟨g, off + i * 2 + 1, none⟩ = some (.int .i64 l[i].2)) := hspc
      have HST : Hid (entsF 0 (LL.take (k + 1)) = entsF 0 (LL.take k) ++ l.map (spP k)) := by show _ = _; rw [ents_step LL 0 k hlt, hl2, Nat.zero_add]
      have HLEN : Hid ((entsF 0 (LL.take k)).length + l.length ≤ 4096) := by
        show _ ≤ _
        have h1 := ents_len LL 0 (k + 1)
        rw [HST.out, List.length_append, List.length_map] at h1
        omega
      obtain ⟨E, hE⟩ : ∃ E, E = entsF 0 (LL.take k) := ⟨_, rfl⟩
      rw [← hE] at HST HLEN ho
      obtain ⟨HO, HB⟩ : Hid (wr.ownsRow w.heap.size 51 3 u3 E.length (cellsPs E)) ∧ Hid (Below w.heap.size w wr) := ⟨ho, hB⟩
      clear ho hB hc hspc hl2 hE
      subst hwk
      have HOK : Hid (wk.ownsRow w.heap.size 51 3 u3 E.length (cellsPs E)) := HO.out
      go_wp2_with fail
      go_loopw [3, 17] (fun y x wi => ∃ j : Nat, j ≤ l.length ∧ x = .int .i64 j ∧ wi.ownsRow w.heap.size 51 3 y (E ++ (l.take j).map (spP k)).length (cellsPs (E ++ (l.take j).map (spP k))) ∧ Below w.heap.size w wi) (fun _ x _ => l.length - (intOf x).toNat)
      case atStart => exact ⟨0, Nat.zero_le _, rfl, by simpa using HO.out, HB.out⟩
      case round =>
        obtain ⟨j, hj, rfl, ho, hB⟩ := hrel
        have hsi := hB.size
        by_cases hjl : j < l.length
        · have hjl' : (j : Int) < (l.length : Int) := by omega
          have HWJ : Hid (wrap64 ((j : Int) + 1) = ((j + 1 : Nat) : Int)) := wrap_next (by have := HLEN.out; omega)
          obtain ⟨g2, off2, rfl, hg2, c0, c1⟩ := HSP.out j hjl
          obtain ⟨p, hp⟩ : ∃ p, p = l[j] := ⟨_, rfl⟩
          have HSJ : Hid (E ++ (l.take (j + 1)).map (spP k) = (E ++ (l.take j).map (spP k)) ++ [spP k p]) := by
            show _ = _
            rw [List.take_succ_eq_append_getElem hjl, List.map_append, hp]
            simp
          rw [← hp] at c0 c1
          have d0 : wr.cell? ⟨g2, off2 + j * 2, none⟩ = some (.int .i64 p.1) := (hB.cell (p := ⟨g2, _, none⟩) hg2).trans c0
          have d1 : wr.cell? ⟨g2, off2 + j * 2 + 1, none⟩ = some (.int .i64 p.2) := (hB.cell (p := ⟨g2, _, none⟩) hg2).trans c1
          have HN : Hid ((E ++ (l.take j).map (spP k)).length ≤ 4096) := by
            show _ ≤ _
            have := HLEN.out
            rw [List.length_append, List.length_map, List.length_take]
            omega
          obtain ⟨R, hR⟩ : ∃ R, R = E ++ (l.take j).map (spP k) := ⟨_, rfl⟩
          rw [← hR] at HSJ ho HN
          obtain ⟨HOI, HBI⟩ : Hid (wr.ownsRow w.heap.size 51 3 u3 R.length (cellsPs R)) ∧ Hid (Below w.heap.size w wr) := ⟨ho, hB⟩
          have hwk2 : IntKind.u8.wrap (k : Int) = (k : Int) := by
            have : IntKind.u8.wrap (k : Int) = (k : Int) % 256 := by simp [IntKind.wrap, IntKind.signed, IntKind.bits]
            omega
          have HOA : Hid (((wr.alloc (.cells #[.int .i64 p.1, .int .i64 p.2] 99)).alloc (.cells #[.int .i64 p.1, .int .i64 p.2, .int .u8 (k : Int)] 51)).ownsRow w.heap.size 51 3 u3 R.length (cellsPs R)) := (HOI.out.alloc _).alloc _
          have HNA : Hid (((wr.alloc (.cells #[.int .i64 p.1, .int .i64 p.2] 99)).alloc (.cells #[.int .i64 p.1, .int .i64 p.2, .int .u8 (k : Int)] 51)).heap[wr.heap.size + 1]? = some (.cells #[.int .i64 p.1, .int .i64 p.2, .int .u8 (k : Int)] 51 (0, 0))) := heap_alloc2_new wr _ _
          have HBA : Hid (Below w.heap.size w ((wr.alloc (.cells #[.int .i64 p.1, .int .i64 p.2] 99)).alloc (.cells #[.int .i64 p.1, .int .i64 p.2, .int .u8 (k : Int)] 51))) := (HBI.out.alloc hsi _).alloc (by simp; omega) _
          clear c0 c1 hp ho hB hR
          go_wp2_with (first | (at_builtin; refine wpList_append_own _ rfl _ _ 48 rfl w.heap.size 51 iP (.agg #[.int .i64 0, .int .i64 0, .int .u8 0]) 3 24 Tryd.undPs hiP hzP0 hzP1 hzP2 rfl (by decide) _ _ _ rfl HOA.out ⟨wr.heap.size + 1, 0, none⟩ 1 1 (cellsP (spP k p)) rfl rfl (World.news_of_block HNA.out) (by simp [cellsP, Value.oneCell']) (by unfold maxLen; have := HN.out; omega) (by have := HN.out; omega) (by simp; omega) ?_; intro v2 w2 ho2 hg2 _; have HO2 : Hid (w2.ownsRow w.heap.size 51 3 v2 (R ++ [spP k p]).length (cellsPs (R ++ [spP k p]))) := (by rw [cellsPs_snoc, List.length_append]; exact ho2); have HG2 : Hid (Below w.heap.size w w2) := HBA.out.grown hg2 (by simp; omega) (fun j e => (HOA.out.lt j e).1); clear ho2 hg2) | fail)
          go_roundw
          case rel => exact ⟨j + 1, Nat.succ_le_of_lt hjl, congrArg (Value.int .i64) HWJ.out, by rw [HSJ.out]; exact HO2.out, HG2.out⟩
          case measure => exact meas_wrap HWJ.out hjl
        · have hjl' : ¬ ((j : Int) < (l.length : Int)) := by omega
          have hje : l.take j = l := List.take_of_length_le (by omega)
          rw [hje] at ho
          have HOI : Hid (wr.ownsRow w.heap.size 51 3 u3 (entsF 0 (LL.take (k + 1))).length (cellsPs (entsF 0 (LL.take (k + 1))))) := by rw [HST.out]; exact ho
          have HBI : Hid (Below w.heap.size w wr) := hB
          clear ho hB hje
          go_wp2_with fail
          go_roundw
          case rel => exact ⟨k + 1, by omega, by go_num, HOI.out, HBI.out⟩
          case measure => simp [intOf]; omega
    · have hlt' : ¬ ((k : Int) < (LL.length : Int)) := by omega
      have hke : LL.take k = LL := List.take_of_length_le (by omega)
      rw [hke] at ho
      obtain ⟨HO, HB⟩ : Hid (wr.ownsRow w.heap.size 51 3 u3 (entsF 0 LL).length (cellsPs (entsF 0 LL))) ∧ Hid (Below w.heap.size w wr) := ⟨ho, hB⟩
      clear ho hB hke
      go_wp2
      go_ret
      exact ⟨_, rfl, HO.out, HB.out⟩

end Go.Proofs.YtpknmpgbaccffaaDoor

namespace Go.Proofs.YtpknmpgbaccffaaDoor
open Go.RowKit
set_option linter.unusedVariables false

/-- The variable's block holds the table of scripts. -/
def Scripts (w : World) : Prop := w.rangeAt 0 0 (cellsPs scP)
theorem Tryd.undScr : Tryd.prog.underlying 100 = some (.array 24 51) := by kernel_rfl
theorem Tryd.sizeScr : (Tryd.prog.info? 100).map (·.size) = some 72 := by kernel_rfl
theorem scP_len : scP.length = 24 := rfl
theorem Scripts.below {w w' : World} (h : Scripts w) (h0 : 0 < w.heap.size) (hb : Below w.heap.size w w') : Scripts w' := fun j u hj => (hb.cell (p := ⟨0, _, none⟩) h0).trans (h j u hj)

set_option maxRecDepth 100000 in
theorem scr_index (w : World) (i : Nat) (h : i < 24) : (Instr.index 100 (.agg (cellsPs scP).toArray) (.int .i64 (i : Int))).run Tryd.prog w = .ok (.agg #[.int .i64 (scP[i]'h).lo, .int .i64 (scP[i]'h).hi, .int .u8 (scP[i]'h).v]) w := by
  have : i = 0 ∨ i = 1 ∨ i = 2 ∨ i = 3 ∨ i = 4 ∨ i = 5 ∨ i = 6 ∨ i = 7 ∨ i = 8 ∨ i = 9 ∨ i = 10 ∨ i = 11 ∨ i = 12 ∨ i = 13 ∨ i = 14 ∨ i = 15 ∨ i = 16 ∨ i = 17 ∨ i = 18 ∨ i = 19 ∨ i = 20 ∨ i = 21 ∨ i = 22 ∨ i = 23 := by omega
  rcases this with rfl | rfl | rfl | rfl | rfl | rfl | rfl | rfl | rfl | rfl | rfl | rfl | rfl | rfl | rfl | rfl | rfl | rfl | rfl | rfl | rfl | rfl | rfl | rfl <;> (show _ = _; kernel_rfl)

set_option maxRecDepth 100000 in
set_option maxHeartbeats 8000000 in
theorem scriptEntries_any (w : World) (hs : Scripts w) (h0 : 0 < w.heap.size) :
    Calls Tryd.prog 43 #[] w fun e w' => ∃ v', e = .returned v' ∧ w'.ownsRow w.heap.size 51 3 v' scP.length (cellsPs scP) ∧ Below w.heap.size w w' := by
  obtain ⟨iP, hiP, hzP0, hzP1, hzP2⟩ := info_parts Tryd.infoProp
  obtain ⟨S, hS⟩ : ∃ S, S = scP := ⟨_, rfl⟩
  have HSL : Hid (S.length = 24) := by show _ = _; rw [hS]; rfl
  have HR : Hid (w.rangeAt 0 0 (cellsPs S)) := by rw [hS]; exact hs
  have HI : Hid ((Tryd.prog.info? 100).map (·.size) = some (cellsPs S).length) := by show _ = _; rw [cellsPs_length, HSL.out]; exact Tryd.sizeScr
  have HIX : Hid (∀ (w' : World) (i : Nat) (h : i < S.length), (Instr.index 100 (.agg (cellsPs S).toArray) (.int .i64 (i : Int))).run Tryd.prog w' = .ok (.agg #[.int .i64 S[i].lo, .int .i64 S[i].hi, .int .u8 S[i].v]) w') := by
    intro w' i h
    subst hS
    exact scr_index w' i h
  rw [← hS]
  clear hs hS
  go_enter Tryd.func43, Tryd.ntmps43
  go_wp2_with (first | (refine wpList_load_mid rfl 100 _ rfl 0 0 rfl (cellsPs S) _ HR.out Tryd.undScr rfl HI.out ?_) | fail)
  obtain ⟨LI, hLI⟩ : ∃ LI, LI = (cellsPs S).toArray := ⟨_, rfl⟩
  rw [← hLI] at HIX
  rw [← hLI]
  clear hLI HR HI
  go_loopw [1, 5] (fun y x wr => ∃ k : Nat, k ≤ 24 ∧ x = .int .i64 k ∧ wr.ownsRow w.heap.size 51 3 y (S.take k).length (cellsPs (S.take k)) ∧ Below w.heap.size w wr) (fun _ x _ => 24 - (intOf x).toNat)
  case atStart => exact ⟨0, Nat.zero_le _, rfl, World.ownsRow_nil _ _ _ _, Below.refl _ _⟩
  case round =>
    obtain ⟨k, hk, rfl, ho, hB⟩ := hrel
    have hsi := hB.size
    by_cases hlt : k < 24
    · have hlt' : (k : Int) < 24 := by omega
      have hkS : k < S.length := by rw [HSL.out]; exact hlt
      obtain ⟨p, hp⟩ : ∃ p, p = S[k] := ⟨_, rfl⟩
      have hIX : ∀ w' : World, (Instr.index 100 (.agg LI) (.int .i64 (k : Int))).run Tryd.prog w' = .ok (.agg #[.int .i64 p.lo, .int .i64 p.hi, .int .u8 p.v]) w' := fun w' => by rw [hp]; exact HIX.out w' k hkS
      have HST : Hid (S.take (k + 1) = S.take k ++ [p]) := by show _ = _; rw [List.take_succ_eq_append_getElem hkS, hp]
      have HN : Hid ((S.take k).length ≤ 24) := by show _ ≤ _; rw [List.length_take]; omega
      obtain ⟨R, hR⟩ : ∃ R, R = S.take k := ⟨_, rfl⟩
      rw [← hR] at HST HN ho
      obtain ⟨HO, HB⟩ : Hid (wr.ownsRow w.heap.size 51 3 u1 R.length (cellsPs R)) ∧ Hid (Below w.heap.size w wr) := ⟨ho, hB⟩
      have HWJ : Hid (wrap64 ((k : Int) + 1) = ((k + 1 : Nat) : Int)) := wrap_next (by omega)
      have HOA : Hid (((wr.alloc (.cells #[.int .i64 p.lo, .int .i64 p.hi, .int .u8 p.v] 51)).alloc (.cells #[.int .i64 p.lo, .int .i64 p.hi, .int .u8 p.v] 51)).ownsRow w.heap.size 51 3 u1 R.length (cellsPs R)) := (HO.out.alloc _).alloc _
      have HNA : Hid (((wr.alloc (.cells #[.int .i64 p.lo, .int .i64 p.hi, .int .u8 p.v] 51)).alloc (.cells #[.int .i64 p.lo, .int .i64 p.hi, .int .u8 p.v] 51)).heap[wr.heap.size + 1]? = some (.cells #[.int .i64 p.lo, .int .i64 p.hi, .int .u8 p.v] 51 (0, 0))) := heap_alloc2_new wr _ _
      have HBA : Hid (Below w.heap.size w ((wr.alloc (.cells #[.int .i64 p.lo, .int .i64 p.hi, .int .u8 p.v] 51)).alloc (.cells #[.int .i64 p.lo, .int .i64 p.hi, .int .u8 p.v] 51))) := (HB.out.alloc hsi _).alloc (by simp; omega) _
      clear hp hR ho hB
      go_wp2_with (first | (at_builtin; refine wpList_append_own _ rfl _ _ 48 rfl w.heap.size 51 iP (.agg #[.int .i64 0, .int .i64 0, .int .u8 0]) 3 24 Tryd.undPs hiP hzP0 hzP1 hzP2 rfl (by decide) _ _ _ rfl HOA.out ⟨wr.heap.size + 1, 0, none⟩ 1 1 (cellsP p) rfl rfl (World.news_of_block HNA.out) (by simp [cellsP, Value.oneCell']) (by unfold maxLen; have := HN.out; omega) (by have := HN.out; omega) (by simp; omega) ?_; intro v2 w2 ho2 hg2 _; have HO2 : Hid (w2.ownsRow w.heap.size 51 3 v2 (R ++ [p]).length (cellsPs (R ++ [p]))) := (by rw [cellsPs_snoc, List.length_append]; exact ho2); have HG2 : Hid (Below w.heap.size w w2) := HBA.out.grown hg2 (by simp; omega) (fun j e => (HOA.out.lt j e).1); clear ho2 hg2) | fail)
      go_roundw
      case rel => exact ⟨k + 1, Nat.succ_le_of_lt hlt, by go_num, by rw [HST.out]; exact HO2.out, HG2.out⟩
      case measure => simp [intOf]; omega
    · have hlt' : ¬ ((k : Int) < 24) := by omega
      have hke : S.take k = S := List.take_of_length_le (by rw [HSL.out]; omega)
      rw [hke] at ho
      obtain ⟨HO, HB⟩ : Hid (wr.ownsRow w.heap.size 51 3 u1 S.length (cellsPs S)) ∧ Hid (Below w.heap.size w wr) := ⟨ho, hB⟩
      clear ho hB hke
      go_wp2
      go_ret
      exact ⟨_, rfl, HO.out, HB.out⟩
end Go.Proofs.YtpknmpgbaccffaaDoor

namespace Go.Proofs.YtpknmpgbaccffaaDoor
open Go.RowKit
set_option linter.unusedVariables false

def ppEq (a b : Pp) : Bool := a.lo == b.lo && a.hi == b.hi && a.v == b.v
theorem ppEq_iff {a b : Pp} : ppEq a b = true ↔ a = b := by
  cases a; cases b
  simp [ppEq, and_assoc]
def subB (A B : List Pp) : Bool := A.all fun p => B.any (ppEq p)
theorem subB_mem {A B : List Pp} (h : subB A B = true) : ∀ p ∈ A, p ∈ B := fun p hp => by
  obtain ⟨q, hq, e⟩ := List.any_eq_true.1 (List.all_eq_true.1 h p hp)
  rw [ppEq_iff.1 e]; exact hq
def ascB : Int → List Pp → Bool
  | _, [] => true
  | b, p :: l => decide (b ≤ p.lo) && decide (p.lo ≤ p.hi) && ascB (p.hi + 1) l
theorem asc_ge : ∀ {l : List Pp} {b : Int}, ascB b l = true → ∀ p ∈ l, b ≤ p.lo ∧ p.lo ≤ p.hi
  | x :: l, b, h, p, hp => by
    simp only [ascB, Bool.and_eq_true, decide_eq_true_eq] at h
    rcases List.mem_cons.1 hp with e | e
    · rw [e]; exact h.1
    · have := asc_ge h.2 p e
      omega
theorem asc_apart : ∀ {l : List Pp} {b : Int}, ascB b l = true → Apart l
  | [], b, _ => trivial
  | x :: l, b, h => by
    have h' := h
    simp only [ascB, Bool.and_eq_true, decide_eq_true_eq] at h'
    refine ⟨fun q hq r hr => ?_, asc_apart h'.2⟩
    have h1 := asc_ge h'.2 q hq
    have h2 := hasP_iff.1 hr
    cases z : hasP q r with
    | false => rfl
    | true => have := hasP_iff.1 z; omega
def goodB (l : List Pp) : Bool := l.all fun p => decide (0 ≤ p.lo) && decide (p.hi ≤ 1114111) && decide (p.lo ≤ p.hi) && decide (0 ≤ p.v) && decide (p.v ≤ 255)
theorem goodB_mem {l : List Pp} (h : goodB l = true) : ∀ p ∈ l, 0 ≤ p.lo ∧ p.hi ≤ 1114111 ∧ p.lo ≤ p.hi ∧ 0 ≤ p.v ∧ p.v ≤ 255 := fun p hp => by
  have := List.all_eq_true.1 h p hp
  simp only [Bool.and_eq_true, decide_eq_true_eq] at this
  omega
/-- The entries of the program's tables, and the rows of the document's. -/
def tabP : Nat → List Pp
  | 0 => entsF 0 ([] :: clLL)
  | 1 => entsF 0 ([] :: wdLL)
  | 2 => scP
  | _ => entsF 0 [[], picL]
def tabR : Nat → List Pp
  | 0 => clR
  | 1 => wdR
  | 2 => scR
  | _ => piR
theorem four {P : Nat → Prop} (h0 : P 0) (h1 : P 1) (h2 : P 2) (h3 : P 3) : ∀ i, i < 4 → P i := fun i hi => by
  have : i = 0 ∨ i = 1 ∨ i = 2 ∨ i = 3 := by omega
  rcases this with rfl | rfl | rfl | rfl <;> assumption
set_option maxRecDepth 100000 in
theorem tab_sub : ∀ i, i < 4 → subB (tabP i) (tabR i) = true ∧ subB (tabR i) (tabP i) = true ∧ ascB 0 (tabR i) = true ∧ goodB (tabP i) = true ∧ goodB (tabR i) = true :=
  four ⟨by kernel_rfl, by kernel_rfl, by kernel_rfl, by kernel_rfl, by kernel_rfl⟩ ⟨by kernel_rfl, by kernel_rfl, by kernel_rfl, by kernel_rfl, by kernel_rfl⟩ ⟨by kernel_rfl, by kernel_rfl, by kernel_rfl, by kernel_rfl, by kernel_rfl⟩ ⟨by kernel_rfl, by kernel_rfl, by kernel_rfl, by kernel_rfl, by kernel_rfl⟩
theorem tab_apart (i : Nat) (hi : i < 4) : Apart (tabR i) := asc_apart (tab_sub i hi).2.2.1
theorem tab_val (i : Nat) (hi : i < 4) (r : Int) : valP (tabP i) r = valP (tabR i) r :=
  val_apart (tab_apart i hi) (fun p => ⟨subB_mem (tab_sub i hi).2.1 p, subB_mem (tab_sub i hi).1 p⟩) r
theorem tab_valF (i : Nat) (hi : i < 4) : valP (tabP i) = valP (tabR i) := funext (tab_val i hi)
theorem tab_good (i : Nat) (hi : i < 4) : ∀ p ∈ tabP i, 0 ≤ p.lo ∧ p.hi ≤ 1114111 ∧ p.lo ≤ p.hi ∧ 0 ≤ p.v ∧ p.v ≤ 255 := goodB_mem (tab_sub i hi).2.2.2.1
theorem tab_goodR (i : Nat) (hi : i < 4) : ∀ p ∈ tabR i, 0 ≤ p.lo ∧ p.hi ≤ 1114111 ∧ p.lo ≤ p.hi ∧ 0 ≤ p.v ∧ p.v ≤ 255 := goodB_mem (tab_sub i hi).2.2.2.2
theorem tab_bytes (i : Nat) (hi : i < 4) : Bytes (tabP i) := fun p hp => (tab_good i hi p hp).2.2.2
theorem tab_bytesR (i : Nat) (hi : i < 4) : Bytes (tabR i) := fun p hp => (tab_goodR i hi p hp).2.2.2
set_option maxRecDepth 100000 in
theorem tab_len : ∀ i, i < 4 → (tabP i).length ≤ 129 ∧ (tabR i).length ≤ 129 :=
  four ⟨by decide +kernel, by decide +kernel⟩ ⟨by decide +kernel, by decide +kernel⟩ ⟨by decide +kernel, by decide +kernel⟩ ⟨by decide +kernel, by decide +kernel⟩
/-- Entries of low numbers touch few blocks. -/
theorem blocks_lowN {l : List Pp} (n : Nat) (h : ∀ p ∈ l, 0 ≤ p.lo ∧ p.hi < 256 * n) : (firstB l).length ≤ n + 1 := by
  have := firsts_le (bs := blocksF (valP l)) (m := blkF (fun _ => 0) 0 :: (List.range n).map (blkF (valP l))) (fun x hx => by
    obtain ⟨k, hk, rfl⟩ := List.mem_map.1 hx
    by_cases q : k < n
    · exact List.mem_cons.2 (.inr (List.mem_map.2 ⟨k, List.mem_range.2 q, rfl⟩))
    · have e : blkF (valP l) k = blkF (fun _ => 0) 0 := by
        unfold blkF
        refine List.map_congr_left (fun i hi => ?_)
        exact val_none (fun p hp => by
          have := h p hp
          cases z : hasP p ((k * 256 + i : Nat) : Int) with
          | false => rfl
          | true => have := hasP_iff.1 z; omega)
      rw [e]; exact List.mem_cons.2 (.inl rfl))
  unfold firstB
  simpa using this
theorem grow_bound (f : List Pp → Nat) (h : ∀ t x, f (t ++ [x]) ≤ f t + 3) : ∀ t, f t ≤ f [] + 3 * t.length := by
  refine snoc_ind (P := fun t => f t ≤ f [] + 3 * t.length) (by simp) (fun t x ih => ?_)
  have h1 := h t x
  rw [List.length_append]
  simp only [List.length_cons, List.length_nil]
  omega
theorem firstB_moreL (l t : List Pp) : (firstB (l ++ t)).length ≤ (firstB l).length + 3 * t.length := by
  have h := grow_bound (fun t => (firstB (l ++ t)).length) (fun t x => by
    show (firstB (l ++ (t ++ [x]))).length ≤ _
    rw [← List.append_assoc]
    exact blocks_more (l ++ t) x) t
  simp only [List.append_nil] at h
  exact h
theorem firstB_tab (i : Nat) (hi : i < 4) : firstB (tabP i) = firstB (tabR i) := by unfold firstB; rw [tab_valF i hi]
theorem likeB_tab (i : Nat) (hi : i < 4) : likeB (tabP i) = likeB (tabR i) := by unfold likeB; rw [tab_valF i hi]
set_option maxRecDepth 100000 in
theorem first_small : ∀ i, i < 4 → (firstB (tabR i)).length ≤ 256 := by
  refine four ?_ ?_ ?_ ?_
  · have := firstB_le (tabR 0)
    have h : (tabR 0).length = 62 := by decide +kernel
    omega
  · have h0 : tabR 1 = wdR.take 103 ++ wdR.drop 103 := (List.take_append_drop 103 wdR).symm
    have h1 : ((wdR.take 103).all fun p => decide (0 ≤ p.lo) && decide (p.hi < 12800)) = true := by kernel_rfl
    have h2 : (wdR.drop 103).length = 26 := by decide +kernel
    have h3 := blocks_lowN (l := wdR.take 103) 50 (fun p hp => by
      have := List.all_eq_true.1 h1 p hp
      simp only [Bool.and_eq_true, decide_eq_true_eq] at this
      omega)
    have h4 := firstB_moreL (wdR.take 103) (wdR.drop 103)
    rw [h0]
    omega
  · have := firstB_le (tabR 2)
    have h : (tabR 2).length = 24 := by decide +kernel
    omega
  · have := firstB_le (tabR 3)
    have h : (tabR 3).length = 66 := by decide +kernel
    omega
theorem tab_err (i : Nat) (hi : i < 4) : errB (tabP i) = 0 :=
  errB_mk (by have := (tab_len i hi).1; omega) (fun p hp => by have := tab_good i hi p hp; omega) (by rw [firstB_tab i hi]; exact first_small i hi)
theorem tab_errR (i : Nat) (hi : i < 4) : errB (tabR i) = 0 :=
  errB_mk (by have := (tab_len i hi).2; omega) (fun p hp => by have := tab_goodR i hi p hp; omega) (first_small i hi)
/-- The tables as tries. -/
theorem tab_fine (i : Nat) (hi : i < 4) : Fine (likeB (tabP i)) (firstB (tabP i)) := fineB (tab_bytes i hi) (errB_zero (tab_err i hi)).2.2
theorem tab_of (i : Nat) (hi : i < 4) (r : Int) : ofT (likeB (tabP i)) (firstB (tabP i)) r = valP (tabR i) r := by
  have h : ∀ p ∈ tabP i, 0 ≤ p.lo ∧ p.hi ≤ 1114111 ∧ p.lo ≤ p.hi := fun p hp => by have := tab_good i hi p hp; omega
  rw [← tab_val i hi r]
  exact of_val' h r
/-- What a row of the document's tables says of its numbers. -/
theorem row_val {i : Nat} (hi : i < 4) {p : Pp} (hp : p ∈ tabR i) {r : Int} (hr : hasP p r = true) : valP (tabR i) r = p.v :=
  val_one hp hr (fun q hq hz => (tab_apart i hi).one hp hq hr hz)
end Go.Proofs.YtpknmpgbaccffaaDoor

namespace Go.Proofs.YtpknmpgbaccffaaDoor
open Go.RowKit
set_option linter.unusedVariables false

theorem entsP {w : World} {base : Nat} {v : Value} {l : List Pp} (h : w.ownsRow base 51 3 v l.length (cellsPs l)) : PropsIn w v l := props_of_row h
set_option maxRecDepth 100000 in
theorem ents_lens : ([] :: clLL).length ≤ 255 ∧ (entsF 0 ([] :: clLL)).length ≤ 4096 ∧ ([] :: wdLL).length ≤ 255 ∧ (entsF 0 ([] :: wdLL)).length ≤ 4096 ∧ (entsF 0 [[], picL]).length ≤ 4096 := by
  refine ⟨by decide +kernel, by decide +kernel, by decide +kernel, by decide +kernel, by decide +kernel⟩
theorem pic_lists {w : World} {v : Value} {l : List Sp} (h : SpansIn w v l) : ListsIn (w.alloc (.cells #[.slice none 0 0, v] 72)) (.slice (some ⟨w.heap.size, 0, none⟩) 2 2) [[], l] := by
  refine ⟨_, _, rfl, fun i hi => ?_⟩
  have hsz : (w.alloc (.cells #[.slice none 0 0, v] 72)).heap.size = w.heap.size + 1 := by simp
  have : i = 0 ∨ i = 1 := by simp at hi; omega
  rcases this with rfl | rfl
  · exact ⟨_, 0, .slice none 0 0, rfl, by omega, cell_row (cs := [.slice none 0 0, v]) (heap_new' _ _) rfl, none, 0, rfl, fun i hi => by simp at hi⟩
  · exact ⟨_, 0, v, rfl, by omega, cell_row (cs := [.slice none 0 0, v]) (heap_new' _ _) rfl, h.below ((Below.refl _ _).alloc (Nat.le_refl _) _)⟩

theorem clusters_c (w : World) : Calls Tryd.prog 41 #[] w fun e w' => ∃ v, e = .returned v ∧ ListsIn w' v ([] :: clLL) ∧ Below w.heap.size w w' :=
  (clusters_any w).mono (by rintro e w' ⟨rfl, rfl⟩; exact ⟨_, rfl, lists_in w clLL, listsW_below w clLL⟩)
theorem words_c (w : World) : Calls Tryd.prog 42 #[] w fun e w' => ∃ v, e = .returned v ∧ ListsIn w' v ([] :: wdLL) ∧ Below w.heap.size w w' :=
  (words_any w).mono (by rintro e w' ⟨rfl, rfl⟩; exact ⟨_, rfl, lists_in w wdLL, listsW_below w wdLL⟩)
theorem pictures_c (w : World) : Calls Tryd.prog 44 #[] w fun e w' => ∃ v, e = .returned v ∧ SpansIn w' v picL ∧ v.oneCell' = true ∧ Below w.heap.size w w' :=
  (pictures_any w).mono (by rintro e w' ⟨rfl, rfl⟩; exact ⟨_, rfl, span_in w picL, rfl, spanW_below w picL⟩)

set_option maxRecDepth 100000 in
set_option maxHeartbeats 8000000 in
theorem shipped_any (i : Nat) (hi : i < 4) (w : World) (hs : Scripts w) (h0 : 0 < w.heap.size) :
    Calls Tryd.prog 26 #[.int .i64 (i : Int)] w fun e w' => ∃ v, e = .returned v ∧ PropsIn w' v (tabP i) ∧ Below w.heap.size w w' := by
  have HS : Hid (Scripts w) := hs
  clear hs
  have : i = 0 ∨ i = 1 ∨ i = 2 ∨ i = 3 := by omega
  rcases this with rfl | rfl | rfl | rfl
  · obtain ⟨E, hE⟩ : ∃ E, E = tabP 0 := ⟨_, rfl⟩
    obtain ⟨LL, hLL⟩ : ∃ LL, LL = [] :: clLL := ⟨_, rfl⟩
    have HL : Hid (LL.length ≤ 255 ∧ (entsF 0 LL).length ≤ 4096) := by rw [hLL]; exact ⟨ents_lens.1, ents_lens.2.1⟩
    have HT : Hid (E = entsF 0 LL) := by rw [hLL, hE]; rfl
    have HC : Hid (Calls Tryd.prog 41 #[] w fun e w' => ∃ v, e = .returned v ∧ ListsIn w' v LL ∧ Below w.heap.size w w') := by rw [hLL]; exact clusters_c w
    rw [← hE]
    clear hLL hE
    go_enter Tryd.func26, Tryd.ntmps26
    go_wp2_with fail
    refine HC.out.mono ?_
    rintro e w1 ⟨v1, rfl, hl1, hB1⟩
    obtain ⟨HI, HB⟩ : Hid (ListsIn w1 v1 LL) ∧ Hid (Below w.heap.size w w1) := ⟨hl1, hB1⟩
    clear hl1 hB1
    go_wp2_with fail
    refine (entries_any LL v1 w1 HI.out HL.out.1 HL.out.2).mono ?_
    rintro e w2 ⟨v2, rfl, ho2, hB2⟩
    obtain ⟨HO2, HB2⟩ : Hid (PropsIn w2 v2 E) ∧ Hid (Below w.heap.size w w2) := ⟨by rw [HT.out]; exact props_of_row ho2, HB.out.trans (hB2.mono HB.out.size)⟩
    clear ho2 hB2
    go_wp2
    go_ret
    exact ⟨_, rfl, HO2.out, HB2.out⟩
  · obtain ⟨E, hE⟩ : ∃ E, E = tabP 1 := ⟨_, rfl⟩
    obtain ⟨LL, hLL⟩ : ∃ LL, LL = [] :: wdLL := ⟨_, rfl⟩
    have HL : Hid (LL.length ≤ 255 ∧ (entsF 0 LL).length ≤ 4096) := by rw [hLL]; exact ⟨ents_lens.2.2.1, ents_lens.2.2.2.1⟩
    have HT : Hid (E = entsF 0 LL) := by rw [hLL, hE]; rfl
    have HC : Hid (Calls Tryd.prog 42 #[] w fun e w' => ∃ v, e = .returned v ∧ ListsIn w' v LL ∧ Below w.heap.size w w') := by rw [hLL]; exact words_c w
    rw [← hE]
    clear hLL hE
    go_enter Tryd.func26, Tryd.ntmps26
    go_wp2_with fail
    refine HC.out.mono ?_
    rintro e w1 ⟨v1, rfl, hl1, hB1⟩
    obtain ⟨HI, HB⟩ : Hid (ListsIn w1 v1 LL) ∧ Hid (Below w.heap.size w w1) := ⟨hl1, hB1⟩
    clear hl1 hB1
    go_wp2_with fail
    refine (entries_any LL v1 w1 HI.out HL.out.1 HL.out.2).mono ?_
    rintro e w2 ⟨v2, rfl, ho2, hB2⟩
    obtain ⟨HO2, HB2⟩ : Hid (PropsIn w2 v2 E) ∧ Hid (Below w.heap.size w w2) := ⟨by rw [HT.out]; exact props_of_row ho2, HB.out.trans (hB2.mono HB.out.size)⟩
    clear ho2 hB2
    go_wp2
    go_ret
    exact ⟨_, rfl, HO2.out, HB2.out⟩
  · obtain ⟨E, hE⟩ : ∃ E, E = tabP 2 := ⟨_, rfl⟩
    have HT : Hid (E = scP) := hE
    rw [← hE]
    clear hE
    go_enter Tryd.func26, Tryd.ntmps26
    go_wp2_with fail
    refine (scriptEntries_any w HS.out h0).mono ?_
    rintro e w2 ⟨v2, rfl, ho2, hB2⟩
    obtain ⟨HO2, HB2⟩ : Hid (PropsIn w2 v2 E) ∧ Hid (Below w.heap.size w w2) := ⟨by rw [HT.out]; exact props_of_row ho2, hB2⟩
    clear ho2 hB2
    go_wp2
    go_ret
    exact ⟨_, rfl, HO2.out, HB2.out⟩
  · obtain ⟨E, hE⟩ : ∃ E, E = tabP 3 := ⟨_, rfl⟩
    obtain ⟨l, hl⟩ : ∃ l, l = picL := ⟨_, rfl⟩
    have HL : Hid ((entsF 0 [[], l]).length ≤ 4096) := by rw [hl]; exact ents_lens.2.2.2.2
    have HT : Hid (E = entsF 0 [[], l]) := by rw [hl, hE]; rfl
    have HC : Hid (Calls Tryd.prog 44 #[] w fun e w' => ∃ v, e = .returned v ∧ SpansIn w' v l ∧ v.oneCell' = true ∧ Below w.heap.size w w') := by rw [hl]; exact pictures_c w
    rw [← hE]
    clear hl hE
    go_enter Tryd.func26, Tryd.ntmps26
    go_wp2_with fail
    refine HC.out.mono ?_
    rintro e w1 ⟨v1, rfl, hl1, hv1, hB1⟩
    obtain ⟨a1, c1, rfl, hc1⟩ := hl1
    obtain ⟨HI, HB⟩ : Hid (SpansIn w1 (.slice a1 l.length c1) l) ∧ Hid (Below w.heap.size w w1) := ⟨⟨a1, c1, rfl, hc1⟩, hB1⟩
    clear hc1 hB1
    go_wp2_with fail
    refine (entries_any [[], l] _ _ (pic_lists HI.out) (by show 2 ≤ 255; omega) HL.out).mono ?_
    rintro e w2 ⟨v2, rfl, ho2, hB2⟩
    have hb1 := HB.out.size
    obtain ⟨HO2, HB2⟩ : Hid (PropsIn w2 v2 E) ∧ Hid (Below w.heap.size w w2) := ⟨by rw [HT.out]; exact props_of_row ho2, (HB.out.alloc hb1 _).trans (hB2.mono (by simp; omega))⟩
    clear ho2 hB2
    go_wp2
    go_ret
    exact ⟨_, rfl, HO2.out, HB2.out⟩

/-- Data in memory: its four tries. -/
def DataAt (w : World) (g : Nat) (TL : Nat → List Int) (TF : Nat → List (List Int)) : Prop :=
  ∃ p : Nat → Value, w.heap[g]? = some (.cells [p 0, p 1, p 2, p 3].toArray 45 (0, 0)) ∧ ∀ i, i < 4 → TrieAt w.heap.size w (p i) (TL i) (TF i)
/-- Data while its tries are put in: those ahead of k are there. -/
def DataTo (w : World) (g k : Nat) (TL : Nat → List Int) (TF : Nat → List (List Int)) : Prop :=
  ∃ p : Nat → Value, w.heap[g]? = some (.cells [p 0, p 1, p 2, p 3].toArray 45 (0, 0)) ∧ (∀ i, i < 4 → ∃ q, p i = .pointer q) ∧ ∀ i, i < k → TrieAt w.heap.size w (p i) (TL i) (TF i)

/-- A pointer's cell of another block is set: a trie stays. -/
theorem TrieAt.setData {n : Nat} {w : World} {pv : Value} {like : List Int} {F : List (List Int)} (h : TrieAt n w pv like F) (hf : Fine like F) {g : Nat} {p : Nat → Value} (hg : w.heap[g]? = some (.cells [p 0, p 1, p 2, p 3].toArray 45 (0, 0))) (hp : ∃ q, p 0 = .pointer q) (j : Nat) (x : Value) : TrieAt n (w.setCell ⟨g, j, none⟩ x) pv like F := by
  obtain ⟨gt, gb, cap, rfl, h1, h2, h3, h4, h5⟩ := h
  obtain ⟨q, hq⟩ := hp
  have e1 : gt ≠ g := fun e => by
    rw [e, hg] at h3
    simp at h3
  have e2 : gb ≠ g := fun e => by
    have hl : 0 < (cellsBl F).length := by rw [cellsBl_length (isB_even hf.isB)]; have := hf.pos; omega
    have hc := h4 0 (cellsBl F)[0] (List.getElem?_eq_getElem hl)
    have hc2 : w.cell? ⟨g, 0, none⟩ = some (p 0) := cell_row hg rfl
    rw [e, Nat.zero_add, hc2, hq] at hc
    have hu : (cellsBl F)[0] ∈ cellsBl F := List.getElem_mem hl
    obtain ⟨y, _, hy⟩ := List.mem_map.1 (show (cellsBl F)[0] ∈ F.flatten.map (Value.int .u8) from hu)
    rw [← hy] at hc
    cases hc
  refine ⟨gt, gb, cap, rfl, h1, h2, ?_, fun j' u hj => ?_, h5⟩
  · rw [heap_setCell_other _ _ _ _ (fun e => e1 e)]
    exact h3
  · exact (World.cell?_setCell_far _ _ _ _ (fun e => e2 e.symm)).trans (h4 j' u hj)
theorem DataTo.below {w w' : World} {g k : Nat} {TL : Nat → List Int} {TF : Nat → List (List Int)} (h : DataTo w g k TL TF) (hb : Below w.heap.size w w') : DataTo w' g k TL TF := by
  obtain ⟨p, h1, h2, h3⟩ := h
  exact ⟨p, (hb.block g (heap_lt h1)).trans h1, h2, fun i hi => ((h3 i hi).below hb).mono hb.size⟩
theorem DataTo.at {w : World} {g : Nat} {TL : Nat → List Int} {TF : Nat → List (List Int)} (h : DataTo w g 4 TL TF) : DataAt w g TL TF := by
  obtain ⟨p, h1, _, h3⟩ := h
  exact ⟨p, h1, h3⟩
theorem DataAt.below {w w' : World} {g : Nat} {TL : Nat → List Int} {TF : Nat → List (List Int)} (h : DataAt w g TL TF) (hb : Below w.heap.size w w') : DataAt w' g TL TF := by
  obtain ⟨p, h1, h3⟩ := h
  exact ⟨p, (hb.block g (heap_lt h1)).trans h1, fun i hi => ((h3 i hi).below hb).mono hb.size⟩
theorem DataTo.store {w : World} {g k : Nat} {TL : Nat → List Int} {TF : Nat → List (List Int)} (h : DataTo w g k TL TF) (hk : k < 4) {pv : Value} (ht : TrieAt w.heap.size w pv (TL k) (TF k)) (hf : ∀ i, i ≤ k → Fine (TL i) (TF i)) : DataTo (w.setCell ⟨g, k, none⟩ pv) g (k + 1) TL TF := by
  obtain ⟨p, h1, h2, h3⟩ := h
  have hsz : (w.setCell ⟨g, k, none⟩ pv).heap.size = w.heap.size := by simp [World.setCell]
  obtain ⟨gt, hpv⟩ := ht.ptr
  refine ⟨fun i => if i = k then pv else p i, heap_set_row h1 ?_, fun i hi => ?_, fun i hi => ?_⟩
  · have : k = 0 ∨ k = 1 ∨ k = 2 ∨ k = 3 := by omega
    rcases this with rfl | rfl | rfl | rfl <;> rfl
  · by_cases e : i = k
    · exact ⟨_, by show (if i = k then pv else p i) = _; rw [if_pos e]; exact hpv⟩
    · obtain ⟨q, hq⟩ := h2 i hi
      exact ⟨q, by show (if i = k then pv else p i) = _; rw [if_neg e]; exact hq⟩
  · rw [hsz]
    by_cases e : i = k
    · subst e
      simp only [if_true]
      exact ht.setData (hf i (Nat.le_refl _)) h1 (h2 0 (by omega)) i pv
    · simp only [if_neg e]
      exact (h3 i (by omega)).setData (hf i (by omega)) h1 (h2 0 (by omega)) k pv
theorem DataTo.cell {w : World} {g k : Nat} {TL : Nat → List Int} {TF : Nat → List (List Int)} (h : DataTo w g k TL TF) {i : Nat} (hi : i < 4) : (∃ u, w.cell? ⟨g, i, none⟩ = some u) ∧ w.frozen? ⟨g, i, none⟩ = false := by
  obtain ⟨p, h1, _⟩ := h
  refine ⟨⟨p i, ?_⟩, frozen_of_row _ _ _ _ _ h1⟩
  have : i = 0 ∨ i = 1 ∨ i = 2 ∨ i = 3 := by omega
  rcases this with rfl | rfl | rfl | rfl <;> exact cell_row h1 rfl

end Go.Proofs.YtpknmpgbaccffaaDoor

namespace Go.Proofs.YtpknmpgbaccffaaDoor
open Go.RowKit
set_option linter.unusedVariables false

set_option maxRecDepth 100000 in
set_option maxHeartbeats 8000000 in
theorem new_any (w : World) (hs : Scripts w) (h0 : 0 < w.heap.size) :
    Calls Tryd.prog 10 #[] w fun e w' => ∃ g, e = .returned (.pointer (some ⟨g, 0, none⟩)) ∧ DataAt w' g (fun i => likeB (tabP i)) (fun i => firstB (tabP i)) ∧ Below w.heap.size w w' := by
  have HS : Hid (Scripts w) := hs
  have HH0 : Hid (0 < w.heap.size) := h0
  obtain ⟨TL, hTL⟩ : ∃ TL : Nat → List Int, TL = fun i => likeB (tabP i) := ⟨_, rfl⟩
  obtain ⟨TF, hTF⟩ : ∃ TF : Nat → List (List Int), TF = fun i => firstB (tabP i) := ⟨_, rfl⟩
  have hL : ∀ i, TL i = likeB (tabP i) := fun i => by rw [hTL]
  have hF : ∀ i, TF i = firstB (tabP i) := fun i => by rw [hTF]
  have HTF : Hid (∀ i, i < 4 → Fine (TL i) (TF i)) := fun i hi => by rw [hL, hF]; exact tab_fine i hi
  have HTB : Hid (∀ i, i < 4 → ∀ v w, PropsIn w v (tabP i) → Calls Tryd.prog 25 #[v] w fun e w' => ∃ pv, e = .returned (.tuple #[pv, .int .i64 0]) ∧ TrieAt w'.heap.size w' pv (TL i) (TF i) ∧ Below w.heap.size w w') := fun i hi v w hv => by
    refine (build_any (tabP i) v w hv (tab_bytes i hi)).mono ?_
    rintro e w' ⟨pv, rfl, _, h2, h3⟩
    rw [tab_err i hi]
    exact ⟨pv, rfl, by rw [hL, hF]; exact h2 (tab_err i hi), h3⟩
  rw [← hTL, ← hTF]
  clear hs hTL hTF hL hF h0
  go_enter Tryd.func10, Tryd.ntmps10
  go_wp2_with fail
  have HD0 : Hid (DataTo (w.alloc (.cells #[.pointer none, .pointer none, .pointer none, .pointer none] 45)) w.heap.size 0 TL TF) := ⟨fun _ => .pointer none, heap_new' w _, fun _ _ => ⟨none, rfl⟩, fun i hi => by omega⟩
  have HB0 : Hid (Below w.heap.size w (w.alloc (.cells #[.pointer none, .pointer none, .pointer none, .pointer none] 45))) := (Below.refl _ _).alloc (Nat.le_refl _) _
  obtain ⟨w1, hw1⟩ : ∃ w1, w1 = w.alloc (.cells #[.pointer none, .pointer none, .pointer none, .pointer none] 45) := ⟨_, rfl⟩
  obtain ⟨g, hg⟩ : ∃ g, g = w.heap.size := ⟨_, rfl⟩
  have HGW : Hid (w.heap.size ≤ g) := by show _ ≤ _; omega
  rw [← hw1] at HD0 HB0
  rw [← hw1, ← hg]
  rw [← hg] at HD0
  clear hw1 hg
  go_loopw [5] (fun x wr => ∃ k : Nat, k ≤ 4 ∧ x = .int .i64 k ∧ DataTo wr g k TL TF ∧ Below w.heap.size w wr) (fun x _ => 4 - (intOf x).toNat)
  case atStart => exact ⟨0, Nat.zero_le _, rfl, HD0.out, HB0.out⟩
  case round =>
    obtain ⟨k, hk, rfl, hD, hB⟩ := hrel
    have hsi := hB.size
    obtain ⟨HD, HB⟩ : Hid (DataTo wr g k TL TF) ∧ Hid (Below w.heap.size w wr) := ⟨hD, hB⟩
    clear hD hB HD0 HB0
    by_cases hlt : k < 4
    · have hlt' : (k : Int) < 4 := by omega
      go_wp2_with fail
      refine wp_region_bad (fun w' => Below wr.heap.size wr w') [11] (by kernel_rfl) ((Below.refl _ _).drew) (fun hS => ?_)
      refine wpAnyB_pure (i := 0) (v := .pointer (some ⟨g, 0, none⟩)) rfl (by kernel_rfl) (fun _ _ _ h => h) (Or.inl ⟨by rfl, fun w _ => by go_simp⟩) hS ?_
      simp only [List.getElem_toArray, List.getElem_cons_zero, Act.put, List.setIfInBounds_toArray, List.set_cons_zero, List.set_cons_succ]
      refine wpAnyB_pure (i := 1) (v := .int .i64 (k : Int)) rfl (by kernel_rfl) (fun _ _ _ h => h) (Or.inl ⟨by rfl, fun w _ => by go_simp⟩) hS ?_
      simp only [List.getElem_toArray, List.getElem_cons_succ, List.getElem_cons_zero, Act.put, List.setIfInBounds_toArray, List.set_cons_zero, List.set_cons_succ]
      refine wpAnyB_pure (i := 2) (v := .int .i64 (k : Int)) rfl (by kernel_rfl) (fun _ _ _ h => h) (Or.inl ⟨by rfl, fun w _ => by go_simp⟩) hS ?_
      simp only [List.getElem_toArray, List.getElem_cons_succ, List.getElem_cons_zero, Act.put, List.setIfInBounds_toArray, List.set_cons_zero, List.set_cons_succ]
      refine wpAnyB_pure (i := 8) (v := .pointer (some ⟨g, 0, none⟩)) rfl (by kernel_rfl) (fun _ _ _ h => h) (Or.inl ⟨by rfl, fun w _ => by go_simp⟩) hS ?_
      simp only [List.getElem_toArray, List.getElem_cons_succ, List.getElem_cons_zero, Act.put, List.setIfInBounds_toArray, List.set_cons_zero, List.set_cons_succ]
      refine wpAnyB_pure (i := 9) (v := .pointer (some ⟨g, 0, none⟩)) rfl (by kernel_rfl) (fun _ _ _ h => h) (Or.inl ⟨by rfl, fun w _ => by go_simp⟩) hS ?_
      simp only [List.getElem_toArray, List.getElem_cons_succ, List.getElem_cons_zero, Act.put, List.setIfInBounds_toArray, List.set_cons_zero, List.set_cons_succ]
      refine wpAnyB_one (i := 3) rfl (by kernel_rfl) (fun K hK => ?_)
      go_simp
      refine (shipped_any k hlt wr.drew ((HS.out.below HH0.out HB.out).below (by have := HH0.out; omega) hS) (by show 0 < wr.heap.size; have := HH0.out; omega)).mono ?_
      rintro e w2 ⟨v2, rfl, hp2, hB2⟩
      have HP2 : Hid (PropsIn w2 v2 (tabP k)) := hp2
      have HB2 : Hid (Below wr.heap.size wr w2) := hS.trans hB2
      refine hK.out _ _ HB2.out ?_
      clear hK K hp2 hB2 hS
      refine wpAnyB_one (i := 4) rfl (by kernel_rfl) (fun K hK => ?_)
      go_simp
      refine (HTB.out k hlt v2 w2 HP2.out).mono ?_
      rintro e w3 ⟨pv, rfl, ht3, hB3⟩
      obtain ⟨gt, rfl⟩ := ht3.ptr
      have hB3' : Below wr.heap.size wr w3 := HB2.out.trans (hB3.mono HB2.out.size)
      have HT3 : Hid (TrieAt w3.heap.size w3 (.pointer (some ⟨gt, 0, none⟩)) (TL k) (TF k)) := ht3
      have HB3 : Hid (Below wr.heap.size wr w3) := hB3'
      have HD3 : Hid (DataTo w3 g k TL TF) := HD.out.below hB3'
      refine hK.out _ _ HB3.out ?_
      clear hK K ht3 hB3
      refine wpAnyB_pure (i := 5) (v := .tuple #[.pointer (some ⟨gt, 0, none⟩), .int .i64 0]) rfl (by kernel_rfl) (fun _ _ _ h => h) (Or.inl ⟨by rfl, fun w _ => by go_simp⟩) hB3' ?_
      simp only [List.getElem_toArray, List.getElem_cons_succ, List.getElem_cons_zero, Act.put, List.setIfInBounds_toArray, List.set_cons_zero, List.set_cons_succ]
      refine wpAnyB_pure (i := 6) (v := .pointer (some ⟨gt, 0, none⟩)) rfl (by kernel_rfl) (fun _ _ _ h => h) (Or.inl ⟨by rfl, fun w _ => by go_simp⟩) hB3' ?_
      simp only [List.getElem_toArray, List.getElem_cons_succ, List.getElem_cons_zero, Act.put, List.setIfInBounds_toArray, List.set_cons_zero, List.set_cons_succ]
      refine wpAnyB_pure (i := 7) (v := .int .i64 0) rfl (by kernel_rfl) (fun _ _ _ h => h) (Or.inl ⟨by rfl, fun w _ => by go_simp⟩) hB3' ?_
      simp only [List.getElem_toArray, List.getElem_cons_succ, List.getElem_cons_zero, Act.put, List.setIfInBounds_toArray, List.set_cons_zero, List.set_cons_succ]
      refine wpAnyB_pure (i := 10) (v := .pointer (some ⟨g, k, none⟩)) rfl (by kernel_rfl) (fun _ _ _ h => h) (Or.inl ⟨by rfl, fun w _ => by go_simp⟩) hB3' ?_
      simp only [List.getElem_toArray, List.getElem_cons_succ, List.getElem_cons_zero, Act.put, List.setIfInBounds_toArray, List.set_cons_zero, List.set_cons_succ]
      obtain ⟨⟨u, hu⟩, hfz⟩ := HD3.out.cell hlt
      refine wpAnyB_last (i := 11) rfl (by kernel_rfl) (fun K hK => ?_)
      rw [if_pos (by rfl)]
      go_wp2
      refine hK.out _ _ ?_
      refine wpAnyB_done (by kernel_rfl) ?_ _
      refine NoPanic.normal ?_
      clear hK K hu hfz hB3'
      go_wp2
      go_roundw
      case rel => exact ⟨k + 1, by omega, by go_num, HD3.out.store hlt HT3.out (fun i hi => HTF.out i (by omega)), (HB.out.trans (HB3.out.mono hsi)).setCell (show w.heap.size ≤ g from HGW.out) _⟩
      case measure => simp [intOf]; omega
    · obtain rfl : k = 4 := by omega
      go_wp2
      go_ret
      exact ⟨g, rfl, HD.out.at, HB.out⟩
end Go.Proofs.YtpknmpgbaccffaaDoor

namespace Go.Proofs.YtpknmpgbaccffaaDoor
open Go.RowKit
set_option linter.unusedVariables false

theorem getD_byte {l : List Int} (h : ∀ x ∈ l, 0 ≤ x ∧ x ≤ 255) (i : Nat) : 0 ≤ l[i]?.getD 0 ∧ l[i]?.getD 0 ≤ 255 := by
  cases e : l[i]? with
  | none => simp
  | some x => have := h x (List.mem_of_getElem? e); simpa using this
theorem ofT_byte {like : List Int} {F : List (List Int)} (hf : Fine like F) (r : Int) : 0 ≤ ofT like F r ∧ ofT like F r ≤ 255 := by
  unfold ofT
  split
  · exact getD_byte (fun x hx => by
      obtain ⟨b, hb, hxb⟩ := List.mem_flatten.1 hx
      exact (hf.isB b hb).2 x hxb) _
  · omega

set_option maxRecDepth 100000 in
set_option maxHeartbeats 8000000 in
theorem dvalue_any (TL : Nat → List Int) (TF : Nat → List (List Int)) (g k : Nat) (r : Int) (w : World) (hk : k < 4) (hd : DataAt w g TL TF) (hf : Fine (TL k) (TF k)) :
    Calls Tryd.prog 28 #[.pointer (some ⟨g, 0, none⟩), .int .i64 (k : Int), .int .i64 r] w fun e w' => e = .returned (.int .i64 (ofT (TL k) (TF k) r)) ∧ Below w.heap.size w w' := by
  obtain ⟨p, hg, ht⟩ := hd
  have hT := ht k hk
  obtain ⟨gt, hgt⟩ := hT.ptr
  have HT : Hid (TrieAt w.heap.size w (.pointer (some ⟨gt, 0, none⟩)) (TL k) (TF k)) := by rw [← hgt]; exact hT
  have hgl := heap_lt hg
  have HC : Hid (∀ w', Below w.heap.size w w' → w'.cell? ⟨g, k, none⟩ = some (.pointer (some ⟨gt, 0, none⟩))) := fun w' hw' => by
    refine (hw'.cell (p := ⟨g, k, none⟩) hgl).trans ?_
    have : k = 0 ∨ k = 1 ∨ k = 2 ∨ k = 3 := by omega
    rcases this with rfl | rfl | rfl | rfl <;> exact (cell_row hg rfl).trans (by rw [hgt])
  obtain ⟨u, hu⟩ : ∃ u, u = ofT (TL k) (TF k) r := ⟨_, rfl⟩
  have HU : Hid (u = ofT (TL k) (TF k) r) := hu
  have HUB : Hid (0 ≤ u ∧ u ≤ 255) := by rw [hu]; exact ofT_byte hf r
  have hkl : (k : Int) < 4 := by omega
  have hwu : IntKind.i64.wrap u = u := IntWalk.i64_in _ (by have := HUB.out; omega)
  rw [← hu]
  have hc := HC.out w (Below.refl _ _)
  clear hg ht hT hgt hu
  go_enter Tryd.func28, Tryd.ntmps28
  go_wp2_with fail
  refine (of_any _ _ _ _ w HT.out hf).mono ?_
  rintro e w1 ⟨rfl, hB1⟩
  rw [← HU.out]
  have HB1 : Hid (Below w.heap.size w w1) := hB1
  clear hB1
  go_wp2
  go_ret
  exact ⟨rfl, HB1.out⟩
/-- A number's kind in clusters. -/
def clusterT (like : List Int) (F : List (List Int)) (r : Int) : Int := if 44032 ≤ r ∧ r ≤ 55203 then (if (r - 44032) % 28 = 0 then 12 else 13) else ofT like F r

set_option maxRecDepth 100000 in
set_option maxHeartbeats 8000000 in
theorem dcluster_any (TL : Nat → List Int) (TF : Nat → List (List Int)) (g : Nat) (r : Int) (w : World) (hd : DataAt w g TL TF) (hf : ∀ i, i < 4 → Fine (TL i) (TF i)) :
    Calls Tryd.prog 12 #[.pointer (some ⟨g, 0, none⟩), .int .i64 r] w fun e w' => e = .returned (.int .i64 (clusterT (TL 0) (TF 0) r)) ∧ Below w.heap.size w w' := by
  obtain ⟨u, hu⟩ : ∃ u, u = clusterT (TL 0) (TF 0) r := ⟨_, rfl⟩
  have HU : Hid (u = clusterT (TL 0) (TF 0) r) := hu
  have HD : Hid (DataAt w g TL TF) := hd
  have HF : Hid (∀ i, i < 4 → Fine (TL i) (TF i)) := hf
  rw [← hu]
  clear hu hd hf
  by_cases n1 : r < 44032
  · have e1 : u = ofT (TL 0) (TF 0) r := by rw [HU.out]; unfold clusterT; rw [if_neg (by omega)]
    have HE : Hid (u = ofT (TL 0) (TF 0) r) := e1
    clear e1 HU
    go_enter Tryd.func12, Tryd.ntmps12
    go_wp2_with fail
    refine (dvalue_any TL TF g 0 r w (by omega) HD.out (HF.out 0 (by omega))).mono ?_
    rintro e w1 ⟨rfl, hB1⟩
    rw [← HE.out]
    have HB1 : Hid (Below w.heap.size w w1) := hB1
    clear hB1
    go_wp2
    go_ret
    exact ⟨rfl, HB1.out⟩
  by_cases n2 : 55203 < r
  · have e1 : u = ofT (TL 0) (TF 0) r := by rw [HU.out]; unfold clusterT; rw [if_neg (by omega)]
    have HE : Hid (u = ofT (TL 0) (TF 0) r) := e1
    clear e1 HU
    go_enter Tryd.func12, Tryd.ntmps12
    go_wp2_with fail
    refine (dvalue_any TL TF g 0 r w (by omega) HD.out (HF.out 0 (by omega))).mono ?_
    rintro e w1 ⟨rfl, hB1⟩
    rw [← HE.out]
    have HB1 : Hid (Below w.heap.size w w1) := hB1
    clear hB1
    go_wp2
    go_ret
    exact ⟨rfl, HB1.out⟩
  obtain ⟨m, rfl⟩ : ∃ m : Nat, r = (m : Int) := ⟨r.toNat, by omega⟩
  have hw1 : IntKind.i64.wrap ((m : Int) - 44032) = (m : Int) - 44032 := IntWalk.i64_in _ (by omega)
  obtain ⟨j, hj⟩ : ∃ j : Nat, (j : Int) = (m : Int) - 44032 := ⟨m - 44032, by omega⟩
  have hm : ((m : Int) - 44032).tmod 28 = ((j % 28 : Nat) : Int) := by rw [← hj, Int.tmod_eq_emod_of_nonneg (by omega)]; omega
  have hw2 : IntKind.i64.wrap ((j % 28 : Nat) : Int) = ((j % 28 : Nat) : Int) := IntWalk.i64_in _ (by omega)
  by_cases n3 : j % 28 = 0
  · have e1 : u = 12 := by rw [HU.out]; unfold clusterT; rw [if_pos (by omega), if_pos (by omega)]
    subst e1
    have hz : (((j % 28 : Nat) : Int) == 0) = true := by simp; omega
    rw [n3] at hm hw2
    clear HU hj n3
    go_enter Tryd.func12, Tryd.ntmps12
    go_wp2
    go_ret
    exact ⟨rfl, Below.refl _ _⟩
  · have e1 : u = 13 := by rw [HU.out]; unfold clusterT; rw [if_pos (by omega), if_neg (by omega)]
    subst e1
    obtain ⟨q, hq⟩ : ∃ q : Nat, q = j % 28 := ⟨_, rfl⟩
    rw [← hq] at hm hw2
    have hz : ((q : Int) == 0) = false := by simp; omega
    clear HU hj n3 hq
    go_enter Tryd.func12, Tryd.ntmps12
    go_wp2
    go_ret
    exact ⟨rfl, Below.refl _ _⟩

set_option maxRecDepth 100000 in
set_option maxHeartbeats 8000000 in
theorem dword_any (TL : Nat → List Int) (TF : Nat → List (List Int)) (g : Nat) (r : Int) (w : World) (hd : DataAt w g TL TF) (hf : ∀ i, i < 4 → Fine (TL i) (TF i)) :
    Calls Tryd.prog 13 #[.pointer (some ⟨g, 0, none⟩), .int .i64 r] w fun e w' => e = .returned (.int .i64 (ofT (TL 1) (TF 1) r)) ∧ Below w.heap.size w w' := by
  obtain ⟨u, hu⟩ : ∃ u, u = ofT (TL 1) (TF 1) r := ⟨_, rfl⟩
  have HU : Hid (u = ofT (TL 1) (TF 1) r) := hu
  have HD : Hid (DataAt w g TL TF) := hd
  have HF : Hid (∀ i, i < 4 → Fine (TL i) (TF i)) := hf
  rw [← hu]
  clear hu hd hf
  go_enter Tryd.func13, Tryd.ntmps13
  go_wp2_with fail
  refine (dvalue_any TL TF g 1 r w (by omega) HD.out (HF.out 1 (by omega))).mono ?_
  rintro e w1 ⟨rfl, hB1⟩
  rw [← HU.out]
  have HB1 : Hid (Below w.heap.size w w1) := hB1
  clear hB1
  go_wp2
  go_ret
  exact ⟨rfl, HB1.out⟩

set_option maxRecDepth 100000 in
set_option maxHeartbeats 8000000 in
theorem dscript_any (TL : Nat → List Int) (TF : Nat → List (List Int)) (g : Nat) (r : Int) (w : World) (hd : DataAt w g TL TF) (hf : ∀ i, i < 4 → Fine (TL i) (TF i)) :
    Calls Tryd.prog 14 #[.pointer (some ⟨g, 0, none⟩), .int .i64 r] w fun e w' => e = .returned (.int .i64 (ofT (TL 2) (TF 2) r)) ∧ Below w.heap.size w w' := by
  obtain ⟨u, hu⟩ : ∃ u, u = ofT (TL 2) (TF 2) r := ⟨_, rfl⟩
  have HU : Hid (u = ofT (TL 2) (TF 2) r) := hu
  have HD : Hid (DataAt w g TL TF) := hd
  have HF : Hid (∀ i, i < 4 → Fine (TL i) (TF i)) := hf
  rw [← hu]
  clear hu hd hf
  go_enter Tryd.func14, Tryd.ntmps14
  go_wp2_with fail
  refine (dvalue_any TL TF g 2 r w (by omega) HD.out (HF.out 2 (by omega))).mono ?_
  rintro e w1 ⟨rfl, hB1⟩
  rw [← HU.out]
  have HB1 : Hid (Below w.heap.size w w1) := hB1
  clear hB1
  go_wp2
  go_ret
  exact ⟨rfl, HB1.out⟩

set_option maxRecDepth 100000 in
set_option maxHeartbeats 8000000 in
theorem dpicto_any (TL : Nat → List Int) (TF : Nat → List (List Int)) (g : Nat) (r : Int) (w : World) (hd : DataAt w g TL TF) (hf : ∀ i, i < 4 → Fine (TL i) (TF i)) :
    Calls Tryd.prog 15 #[.pointer (some ⟨g, 0, none⟩), .int .i64 r] w fun e w' => e = .returned (.bool (ofT (TL 3) (TF 3) r != 0)) ∧ Below w.heap.size w w' := by
  obtain ⟨u, hu⟩ : ∃ u, u = ofT (TL 3) (TF 3) r := ⟨_, rfl⟩
  have HU : Hid (u = ofT (TL 3) (TF 3) r) := hu
  have HD : Hid (DataAt w g TL TF) := hd
  have HF : Hid (∀ i, i < 4 → Fine (TL i) (TF i)) := hf
  rw [← hu]
  clear hu hd hf
  go_enter Tryd.func15, Tryd.ntmps15
  go_wp2_with fail
  refine (dvalue_any TL TF g 3 r w (by omega) HD.out (HF.out 3 (by omega))).mono ?_
  rintro e w1 ⟨rfl, hB1⟩
  rw [← HU.out]
  have HB1 : Hid (Below w.heap.size w w1) := hB1
  clear hB1
  go_wp2
  go_ret
  exact ⟨rfl, HB1.out⟩
end Go.Proofs.YtpknmpgbaccffaaDoor

namespace Go.Proofs.YtpknmpgbaccffaaDoor
open Go.RowKit
set_option linter.unusedVariables false

/-- Data that tells of every number what the document's tables say. -/
structure Ship (w : World) (g : Nat) : Prop where
  data : DataAt w g (fun i => likeB (tabP i)) (fun i => firstB (tabP i))
/-- A number's kind in clusters, by the document's rows. -/
def clV (r : Int) : Int := if 44032 ≤ r ∧ r ≤ 55203 then (if (r - 44032) % 28 = 0 then 12 else 13) else valP clR r
theorem Ship.below {w w' : World} {g : Nat} (h : Ship w g) (hb : Below w.heap.size w w') : Ship w' g := ⟨h.data.below hb⟩
theorem new_ship (w : World) (hs : Scripts w) (h0 : 0 < w.heap.size) : Calls Tryd.prog 10 #[] w fun e w' => ∃ g, e = .returned (.pointer (some ⟨g, 0, none⟩)) ∧ Ship w' g ∧ Below w.heap.size w w' :=
  (new_any w hs h0).mono (by rintro e w' ⟨g, rfl, h1, h2⟩; exact ⟨g, rfl, ⟨h1⟩, h2⟩)
theorem ship_cluster (w : World) (g : Nat) (r : Int) (h : Ship w g) : Calls Tryd.prog 12 #[.pointer (some ⟨g, 0, none⟩), .int .i64 r] w fun e w' => e = .returned (.int .i64 (clV r)) ∧ Below w.heap.size w w' := by
  have e : clusterT (likeB (tabP 0)) (firstB (tabP 0)) r = clV r := by
    unfold clusterT clV
    rw [tab_of 0 (by omega) r]
    rfl
  have := dcluster_any _ _ g r w h.data (fun i hi => tab_fine i hi)
  rw [← e]
  exact this
theorem ship_word (w : World) (g : Nat) (r : Int) (h : Ship w g) : Calls Tryd.prog 13 #[.pointer (some ⟨g, 0, none⟩), .int .i64 r] w fun e w' => e = .returned (.int .i64 (valP wdR r)) ∧ Below w.heap.size w w' := by
  have e : ofT (likeB (tabP 1)) (firstB (tabP 1)) r = valP wdR r := tab_of 1 (by omega) r
  have := dword_any _ _ g r w h.data (fun i hi => tab_fine i hi)
  rw [← e]
  exact this
theorem ship_script (w : World) (g : Nat) (r : Int) (h : Ship w g) : Calls Tryd.prog 14 #[.pointer (some ⟨g, 0, none⟩), .int .i64 r] w fun e w' => e = .returned (.int .i64 (valP scR r)) ∧ Below w.heap.size w w' := by
  have e : ofT (likeB (tabP 2)) (firstB (tabP 2)) r = valP scR r := tab_of 2 (by omega) r
  have := dscript_any _ _ g r w h.data (fun i hi => tab_fine i hi)
  rw [← e]
  exact this
theorem ship_picto (w : World) (g : Nat) (r : Int) (h : Ship w g) : Calls Tryd.prog 15 #[.pointer (some ⟨g, 0, none⟩), .int .i64 r] w fun e w' => e = .returned (.bool (valP piR r != 0)) ∧ Below w.heap.size w w' := by
  have e : ofT (likeB (tabP 3)) (firstB (tabP 3)) r = valP piR r := tab_of 3 (by omega) r
  have := dpicto_any _ _ g r w h.data (fun i hi => tab_fine i hi)
  rw [← e]
  exact this
set_option maxRecDepth 100000 in
theorem awake_vals : clV 13 = 1 ∧ clV 44033 = 13 ∧ valP wdR 65 = 10 ∧ valP scR 3585 = 2 ∧ (valP piR 128512 != 0) = true := ⟨by kernel_rfl, by kernel_rfl, by kernel_rfl, by kernel_rfl, by kernel_rfl⟩

set_option maxRecDepth 100000 in
set_option maxHeartbeats 8000000 in
theorem awake_u (w : World) (hs : Scripts w) (h0 : 0 < w.heap.size) :
    Calls Tryd.prog 9 #[] w fun e w' => e = .returned (.bool true) ∧ Below w.heap.size w w' := by
  have HS : Hid (Scripts w) := hs
  have HH0 : Hid (0 < w.heap.size) := h0
  clear hs h0
  go_enter Tryd.func9, Tryd.ntmps9
  go_wp2_with fail
  refine (new_ship w HS.out HH0.out).mono ?_
  rintro e w1 ⟨g, rfl, hd, hB1⟩
  obtain ⟨HD1, HB1⟩ : Hid (Ship w1 g) ∧ Hid (Below w.heap.size w w1) := ⟨hd, hB1⟩
  clear hd hB1
  go_wp2_with fail
  refine (ship_cluster w1 g 13 HD1.out).mono ?_
  rintro e w2 ⟨rfl, hB2⟩
  obtain ⟨HD2, HB2⟩ : Hid (Ship w2 g) ∧ Hid (Below w.heap.size w w2) := ⟨HD1.out.below hB2, HB1.out.trans (hB2.mono HB1.out.size)⟩
  clear hB2
  rw [awake_vals.1]
  go_wp2_with fail
  refine (ship_cluster w2 g 44033 HD2.out).mono ?_
  rintro e w3 ⟨rfl, hB3⟩
  obtain ⟨HD3, HB3⟩ : Hid (Ship w3 g) ∧ Hid (Below w.heap.size w w3) := ⟨HD2.out.below hB3, HB2.out.trans (hB3.mono HB2.out.size)⟩
  clear hB3
  rw [awake_vals.2.1]
  go_wp2_with fail
  refine (ship_word w3 g 65 HD3.out).mono ?_
  rintro e w4 ⟨rfl, hB4⟩
  obtain ⟨HD4, HB4⟩ : Hid (Ship w4 g) ∧ Hid (Below w.heap.size w w4) := ⟨HD3.out.below hB4, HB3.out.trans (hB4.mono HB3.out.size)⟩
  clear hB4
  rw [awake_vals.2.2.1]
  go_wp2_with fail
  refine (ship_script w4 g 3585 HD4.out).mono ?_
  rintro e w5 ⟨rfl, hB5⟩
  obtain ⟨HD5, HB5⟩ : Hid (Ship w5 g) ∧ Hid (Below w.heap.size w w5) := ⟨HD4.out.below hB5, HB4.out.trans (hB5.mono HB4.out.size)⟩
  clear hB5
  rw [awake_vals.2.2.2.1]
  go_wp2_with fail
  refine (ship_picto w5 g 128512 HD5.out).mono ?_
  rintro e w6 ⟨rfl, hB6⟩
  obtain ⟨HD6, HB6⟩ : Hid (Ship w6 g) ∧ Hid (Below w.heap.size w w6) := ⟨HD5.out.below hB6, HB5.out.trans (hB6.mono HB5.out.size)⟩
  clear hB6
  rw [awake_vals.2.2.2.2]
  go_wp2
  go_ret
  exact ⟨rfl, HB6.out⟩
end Go.Proofs.YtpknmpgbaccffaaDoor

namespace Go.Proofs.YtpknmpgbaccffaaDoor
open Go.RowKit
set_option linter.unusedVariables false

/- What the tables' rows say together. -/
theorem cl_small (r : Int) : 0 ≤ valP clR r ∧ valP clR r ≤ 11 := by
  have h : (clR.all fun p => decide (0 ≤ p.v) && decide (p.v ≤ 11)) = true := by kernel_rfl
  rcases val_cases clR r with e | ⟨p, hp, _, e⟩
  · omega
  · have := List.all_eq_true.1 h p hp
    simp only [Bool.and_eq_true, decide_eq_true_eq] at this
    omega
theorem wd_small (r : Int) : 0 ≤ valP wdR r ∧ valP wdR r ≤ 18 := by
  have h : (wdR.all fun p => decide (0 ≤ p.v) && decide (p.v ≤ 18)) = true := by kernel_rfl
  rcases val_cases wdR r with e | ⟨p, hp, _, e⟩
  · omega
  · have := List.all_eq_true.1 h p hp
    simp only [Bool.and_eq_true, decide_eq_true_eq] at this
    omega
theorem sc_small (r : Int) : 0 ≤ valP scR r ∧ valP scR r ≤ 4 := by
  have h : (scR.all fun p => decide (0 ≤ p.v) && decide (p.v ≤ 4)) = true := by kernel_rfl
  rcases val_cases scR r with e | ⟨p, hp, _, e⟩
  · omega
  · have := List.all_eq_true.1 h p hp
    simp only [Bool.and_eq_true, decide_eq_true_eq] at this
    omega
theorem marks_are (r : Int) (h : valP clR r = 4) : valP wdR r = 4 := by
  have h0 : (clR.all fun p => decide (p.v ≠ 4) || wdR.any fun q => decide (q.v = 4) && decide (q.lo ≤ p.lo) && decide (p.hi ≤ q.hi)) = true := by kernel_rfl
  rcases val_cases clR r with e | ⟨p, hp, h1, e⟩
  · omega
  · have h2 := List.all_eq_true.1 h0 p hp
    rw [Bool.or_eq_true] at h2
    rcases h2 with q | q
    · simp only [decide_eq_true_eq] at q
      exact absurd (by omega) q
    · obtain ⟨x, hx, q⟩ := List.any_eq_true.1 q
      simp only [Bool.and_eq_true, decide_eq_true_eq] at q
      have hr := hasP_iff.1 h1
      have := row_val (i := 1) (by omega) (p := x) hx (r := r) (hasP_iff.2 ⟨by omega, by omega⟩)
      exact this.trans q.1.1
theorem no_figure (r : Int) (h : valP scR r ≠ 0) : valP wdR r ≠ 16 ∧ valP wdR r ≠ 18 := by
  have h0 : (scR.all fun p => wdR.all fun q => (decide (q.v ≠ 16) && decide (q.v ≠ 18)) || decide (p.hi < q.lo) || decide (q.hi < p.lo)) = true := by kernel_rfl
  rcases val_cases scR r with e | ⟨p, hp, h1, e⟩
  · exact absurd e h
  · rcases val_cases wdR r with e2 | ⟨x, hx, h2, e2⟩
    · omega
    · have h3 := List.all_eq_true.1 (List.all_eq_true.1 h0 p hp) x hx
      simp only [Bool.or_eq_true, Bool.and_eq_true, decide_eq_true_eq] at h3
      have hr1 := hasP_iff.1 h1
      have hr2 := hasP_iff.1 h2
      rcases h3 with (q | q) | q
      · rw [e2]; exact q
      · omega
      · omega
theorem out_zero (i : Nat) (hi : i < 4) (r : Int) (hr : r < 0 ∨ 1114111 < r) : valP (tabR i) r = 0 := val_out (fun p hp => by have := tab_goodR i hi p hp; omega) hr
end Go.Proofs.YtpknmpgbaccffaaDoor
